package length

import "pendulum/decode"

// ofMore answers the length of an operation of SetMore.
func ofMore(op int) published {
	x, y, z, _, _ := decode.Parts(op)
	switch {
	case x == 1:
		return ofSpecial(y, z)
	case x == 2 && y >= 4 && z < 4:
		return ofBlock(y, z)
	default:
		return always(moreSimple)
	}
}

func ofSpecial(y, z int) published {
	switch z {
	case 0, 1:
		return always(portOfRegister)
	case 2:
		return always(carryWord)
	case 3:
		return always(moreWord)
	case 5:
		return always(moreReturns)
	case 7:
		return ofOdd(y)
	default:
		return always(moreSimple)
	}
}

// ofOdd is of what moves I and R, and what rolls.
func ofOdd(y int) published {
	switch y {
	case 0, 1, 2, 3:
		return always(special)
	case 4, 5:
		return always(roll)
	default:
		return always(moreSimple)
	}
}

// ofBlock is of what goes through memory; from y 6 on it repeats.
func ofBlock(y, z int) published {
	var p published
	switch z {
	case 0:
		p = published{moveOne, moveOneGoes}
	case 1:
		p = published{findOne, findOneGoes}
	case 2:
		p = published{takeInOne, takeInOneGoes}
	default:
		p = published{giveOutOne, giveOutOneGoes}
	}
	if y < 6 {
		return always(p.plain)
	}
	return p
}
