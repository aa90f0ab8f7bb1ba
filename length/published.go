package length

import (
	"pendulum/api"
	"pendulum/decode"
)

// Lengths of SetMain without an index: a digit (hexadecimal) a machine cycle.
const (
	simple      = "4"
	loop        = "53"
	loopGoes    = "58"
	jump        = "48"
	jumpNot     = "43"
	word        = "433"
	addWord     = "b"
	wordInside  = "6"
	oneByte     = "43"
	moveWord    = "43333"
	moveByte    = "4333"
	change      = "443"
	storeNumber = "433"
	returns     = "433"
	ifReturns   = "533"
	returnsNot  = "5"
	push        = "533"
	call        = "43433"
	callNot     = "433"
	port        = "434"
	swapTop     = "43435"
)

// What stands ahead with an index, and what is another then.
const (
	ahead          = "4"
	reached        = "448"
	storeAtReached = "44353"
)

// Lengths of the other sets.
const (
	bitsOfRegister = "44"
	bitsInMemory   = "4443"
	lookInMemory   = "444"
	bitsAtReached  = "443543"
	lookAtReached  = "44354"
	moreSimple     = "44"
	portOfRegister = "444"
	carryWord      = "4b"
	moreWord       = "443333"
	moreReturns    = "4433"
	special        = "45"
	roll           = "4473"
	moveOne        = "4435"
	moveOneGoes    = "443a"
	findOne        = "448"
	findOneGoes    = "44d"
	takeInOne      = "4543"
	takeInOneGoes  = "4548"
	giveOutOne     = "4534"
	giveOutOneGoes = "4539"
)

const (
	codeMemory    = 6    // of the byte at HL
	storeNumberOp = 0x36 // its number is read ahead of the T-states for its index
)

// published is a length without what comes more, and with it.
type published struct{ plain, more string }

// always is the length of what hangs on nothing.
func always(digits string) published {
	return published{digits, digits}
}

func publishedOf(i api.Ins) published {
	switch i.Set {
	case api.SetBits:
		return ofBits(i.Op)
	case api.SetMore:
		return ofMore(i.Op)
	case api.SetBoth:
		return ofBoth(i.Op)
	default:
		return ofMain(i)
	}
}

func ofMain(i api.Ins) published {
	p := ofMainPlain(i.Op)
	switch {
	case i.Index == 0:
		return p
	case i.Op == storeNumberOp:
		return always(storeAtReached)
	case decode.Reaches(i):
		return always(reached + p.plain[1:])
	default:
		return published{ahead + p.plain, ahead + p.more}
	}
}

// ofMainPlain answers the length of an operation of SetMain without an index.
func ofMainPlain(op int) published {
	switch x, _, _, _, _ := decode.Parts(op); {
	case x == 0:
		return ofLow(op)
	case x == 3:
		return ofHigh(op)
	case decode.Reaches(api.Ins{Op: op}):
		return always(oneByte)
	default:
		return always(simple)
	}
}

func ofBits(op int) published {
	switch x, _, z, _, _ := decode.Parts(op); {
	case z != codeMemory:
		return always(bitsOfRegister)
	case x == 1:
		return always(lookInMemory)
	default:
		return always(bitsInMemory)
	}
}

func ofBoth(op int) published {
	if x, _, _, _, _ := decode.Parts(op); x == 1 {
		return always(lookAtReached)
	}
	return always(bitsAtReached)
}
