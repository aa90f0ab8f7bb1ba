package alu

// operator is one of the eight that Do is told by a number; f are the flags ahead of it.
type operator func(a, b, f byte) (r, g byte)

// Do answers what the operator op makes of a, b and f.
func Do(op int, a, b, f byte) (r, g byte) {
	// The low three bits are the remainder that is not below 0, whatever op is.
	return operators()[op&7](a, b, f)
}

func operators() [8]operator {
	return [8]operator{
		func(a, b, f byte) (r, g byte) { return Add(a, b, false) },
		func(a, b, f byte) (r, g byte) { return Add(a, b, f&flagC != 0) },
		func(a, b, f byte) (r, g byte) { return Sub(a, b, false) },
		func(a, b, f byte) (r, g byte) { return Sub(a, b, f&flagC != 0) },
		func(a, b, f byte) (r, g byte) { return And(a, b) },
		func(a, b, f byte) (r, g byte) { return Xor(a, b) },
		func(a, b, f byte) (r, g byte) { return Or(a, b) },
		func(a, b, f byte) (r, g byte) { return a, Cp(a, b) },
	}
}
