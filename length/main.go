package length

import "pendulum/decode"

// ofLow answers the length of an operation of SetMain's x 0.
func ofLow(op int) published {
	_, y, z, _, q := decode.Parts(op)
	switch z {
	case 0:
		return ofJump(y)
	case 1:
		if q == 0 {
			return always(word)
		}
		return always(addWord)
	case 2:
		return ofMove(y)
	case 3:
		return always(wordInside)
	case 4, 5:
		if y == codeMemory {
			return always(change)
		}
		return always(simple)
	case 6:
		if y == codeMemory {
			return always(storeNumber)
		}
		return always(oneByte)
	default:
		return always(simple)
	}
}

func ofJump(y int) published {
	switch y {
	case 0, 1:
		return always(simple)
	case 2:
		return published{loop, loopGoes}
	case 3:
		return always(jump)
	default:
		return published{jumpNot, jump}
	}
}

// ofMove is of what moves A or HL to memory or back.
func ofMove(y int) published {
	switch y {
	case 4, 5:
		return always(moveWord)
	case 6, 7:
		return always(moveByte)
	default:
		return always(oneByte)
	}
}

// ofHigh answers the length of an operation of SetMain's x 3.
func ofHigh(op int) published {
	_, y, z, p, q := decode.Parts(op)
	switch z {
	case 0:
		return published{returnsNot, ifReturns}
	case 1:
		return ofTake(p, q)
	case 2:
		return always(word)
	case 3:
		return ofOthers(y)
	case 4:
		return published{callNot, call}
	case 5:
		return ofGive(p, q)
	case 6:
		return always(oneByte)
	default:
		return always(push)
	}
}

// ofTake is of what takes from the stack, and what stands between.
func ofTake(p, q int) published {
	switch {
	case q == 0 || p == 0:
		return always(returns)
	case p == 3:
		return always(wordInside)
	default:
		return always(simple)
	}
}

// ofGive is of what gives to the stack. A lone prefix stands between.
func ofGive(p, q int) published {
	switch {
	case q == 0:
		return always(push)
	case p == 0:
		return always(call)
	default:
		return always(simple)
	}
}

// ofOthers is of z 3, whose operations have nothing in common.
func ofOthers(y int) published {
	switch y {
	case 0:
		return always(word)
	case 2, 3:
		return always(port)
	case 4:
		return always(swapTop)
	default:
		return always(simple)
	}
}
