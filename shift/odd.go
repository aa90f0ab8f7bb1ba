package shift

import "pendulum/api"

// Daa answers a adjusted to a number in tens, and its flags.
func Daa(a, f byte) (r, g byte) {
	low, carry := a&15, f&api.FlagC != 0 || a > 0x99
	by := byte(0)
	if f&api.FlagH != 0 || low > 9 {
		by = 6
	}
	if carry {
		by += 0x60
		g = api.FlagC
	}
	half := low > 9
	r = a + by
	if f&api.FlagN != 0 {
		half = low < 6 && f&api.FlagH != 0
		r = a - by
	}
	if half {
		g |= api.FlagH
	}
	return r, g | told(r) | f&api.FlagN
}

// Cpl answers a with all bits turned, and its flags.
func Cpl(a, f byte) (r, g byte) {
	r = ^a
	return r, kept(f, r) | f&api.FlagC | api.FlagH | api.FlagN
}

// Scf answers the flags with C set.
func Scf(a, f byte) byte {
	return kept(f, a) | api.FlagC
}

// Ccf answers the flags with C turned; H is what C was.
func Ccf(a, f byte) byte {
	if f&api.FlagC != 0 {
		return kept(f, a) | api.FlagH
	}
	return kept(f, a) | api.FlagC
}

// Rld answers a and m with their four bits gone round to the left, and their flags.
func Rld(a, m, f byte) (r, n, g byte) {
	r = a&0xf0 | m>>4
	return r, m<<4 | a&15, told(r) | f&api.FlagC
}

// Rrd answers a and m with their four bits gone round to the right, and their flags.
func Rrd(a, m, f byte) (r, n, g byte) {
	r = a&0xf0 | m&15
	return r, a<<4 | m>>4, told(r) | f&api.FlagC
}
