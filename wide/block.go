package wide

import (
	"pendulum/alu"
	"pendulum/api"
)

// Move answers the flags behind a byte v was moved.
func Move(a, v byte, left uint16, f byte) byte {
	return f&(api.FlagS|api.FlagZ|api.FlagC) | odd(a+v) | more(left)
}

// Find answers the flags behind v was compared to a.
func Find(a, v byte, left uint16, f byte) byte {
	n, g := alu.Sub(a, v, false)
	if g&api.FlagH != 0 {
		n--
	}
	return api.FlagN | g&(api.FlagS|api.FlagZ|api.FlagH) | odd(n) | more(left) | f&api.FlagC
}

// Port answers the flags behind a byte v went to or from a port.
func Port(v, b, to byte) byte {
	k := v + to
	// A byte that wrapped round is less than what was added to, and its low bits are the sum's.
	over := k < v
	return alu.Own(b) |
		flagIf(v>>7 != 0, api.FlagN) |
		carries(over, over) |
		flagIf(alu.Parity(k&7^b), api.FlagP)
}

// odd answers Y and X: of a block instruction Y is n's bit 1, not its bit 5.
func odd(n byte) byte {
	return n<<4&api.FlagY | n&api.FlagX
}

// more answers P, which tells that something is left of the count.
func more(left uint16) byte {
	return flagIf(left != 0, api.FlagP)
}
