package shift_test

import (
	"testing"

	"pendulum/alu"
	"pendulum/api"
	"pendulum/shift"
)

// adjusted is what the chapter says of Daa, in whole numbers.
func adjusted(a, f byte) (r, g byte) {
	c, h, n := f%2 == 1, f/16%2 == 1, f/2%2 == 1
	by := 0
	if h || a%16 > 9 {
		by += 6
	}
	if c || a > 0x99 {
		by += 0x60
	}
	half := a%16 > 9
	if n {
		by = 256 - by
		half = h && a%16 < 6
	}
	r = byte((int(a) + by) % 256)
	return r, own(r) | flag(c || a > 0x99, api.FlagC) | flag(half, api.FlagH) | flag(n, api.FlagN)
}

func complemented(a, f byte) (r, g byte) {
	r = 255 - a
	return r, copied(f, api.FlagS, api.FlagZ, api.FlagP, api.FlagC) | copied(r, api.FlagY, api.FlagX) | api.FlagH | api.FlagN
}

func cSet(a, f byte) byte {
	return copied(f, api.FlagS, api.FlagZ, api.FlagP) | copied(a, api.FlagY, api.FlagX) | api.FlagC
}

func cTurned(a, f byte) byte {
	was := f%2 == 1
	return copied(f, api.FlagS, api.FlagZ, api.FlagP) | copied(a, api.FlagY, api.FlagX) | flag(!was, api.FlagC) | flag(was, api.FlagH)
}

// P6.2: the chapter's examples, and the edges of what is added and of the flags.
func TestDaa(t *testing.T) {
	for _, x := range []struct{ a, f, r, g byte }{
		{0x9a, 0x00, 0x00, 0x55},
		{0xfa, 0x03, 0x94, 0x83},
		{0x00, 0x00, 0x00, 0x44},
		{0x09, 0x00, 0x09, 0x0c},
		{0x0a, 0x00, 0x10, 0x10},
		{0x99, 0x00, 0x99, 0x8c},
		{0x00, 0x10, 0x06, 0x04},
		{0x00, 0x01, 0x60, 0x25},
		{0xa0, 0x00, 0x00, 0x45},
		{0x00, 0x11, 0x66, 0x25},
		{0x0a, 0x02, 0x04, 0x02},
		{0x05, 0x12, 0xff, 0xbe},
		{0x06, 0x12, 0x00, 0x46},
		{0x0f, 0x12, 0x09, 0x0e},
		{0x9a, 0x02, 0x34, 0x23},
		{0x99, 0x02, 0x99, 0x8e},
		{0x00, 0xee, 0x00, 0x46},
	} {
		if r, g := shift.Daa(x.a, x.f); r != x.r || g != x.g {
			t.Errorf("Daa(%02x, %02x) = %02x, %02x, want %02x, %02x", x.a, x.f, r, g, x.r, x.g)
		}
	}
}

// P6.2
func TestCplScfAndCcf(t *testing.T) {
	for _, x := range []struct {
		a, f, r       byte
		cpl, scf, ccf byte
	}{
		{0x28, 0xff, 0xd7, 0xd7, 0xed, 0xfc},
		{0x28, 0x00, 0xd7, 0x12, 0x29, 0x29},
		{0x00, 0x00, 0xff, 0x3a, 0x01, 0x01},
		{0x00, 0x01, 0xff, 0x3b, 0x01, 0x10},
		{0xff, 0xfe, 0x00, 0xd6, 0xed, 0xed},
		{0xd7, 0x3a, 0x28, 0x3a, 0x01, 0x01},
		{0xff, 0x85, 0x00, 0x97, 0xad, 0xbc},
	} {
		if r, g := shift.Cpl(x.a, x.f); r != x.r || g != x.cpl {
			t.Errorf("Cpl(%02x, %02x) = %02x, %02x, want %02x, %02x", x.a, x.f, r, g, x.r, x.cpl)
		}
		if g := shift.Scf(x.a, x.f); g != x.scf {
			t.Errorf("Scf(%02x, %02x) = %02x, want %02x", x.a, x.f, g, x.scf)
		}
		if g := shift.Ccf(x.a, x.f); g != x.ccf {
			t.Errorf("Ccf(%02x, %02x) = %02x, want %02x", x.a, x.f, g, x.ccf)
		}
	}
}

// P6.2
func TestRldAndRrd(t *testing.T) {
	type call func(a, m, f byte) (r, n, g byte)
	for _, x := range []struct {
		name    string
		call    call
		a, m, f byte
		r, n, g byte
	}{
		{"Rld", shift.Rld, 0x12, 0x34, 0x00, 0x13, 0x42, 0x00},
		{"Rld", shift.Rld, 0x12, 0x34, 0xff, 0x13, 0x42, 0x01},
		{"Rld", shift.Rld, 0x0f, 0x00, 0xfe, 0x00, 0x0f, 0x44},
		{"Rld", shift.Rld, 0xa0, 0x8f, 0x01, 0xa8, 0xf0, 0xa9},
		{"Rrd", shift.Rrd, 0x12, 0x34, 0x00, 0x14, 0x23, 0x04},
		{"Rrd", shift.Rrd, 0x12, 0x34, 0x01, 0x14, 0x23, 0x05},
		{"Rrd", shift.Rrd, 0x0f, 0x00, 0xfe, 0x00, 0xf0, 0x44},
		{"Rrd", shift.Rrd, 0xa0, 0xf8, 0xff, 0xa8, 0x0f, 0xa9},
	} {
		if r, n, g := x.call(x.a, x.m, x.f); r != x.r || n != x.n || g != x.g {
			t.Errorf("%s(%02x, %02x, %02x) = %02x, %02x, %02x, want %02x, %02x, %02x", x.name, x.a, x.m, x.f, r, n, g, x.r, x.n, x.g)
		}
	}
}

// P6.2: each byte with all flags.
func TestTheAccumulatorsOddOperationsOfAllBytes(t *testing.T) {
	eachPair(func(a, f byte) bool {
		r, g := shift.Daa(a, f)
		if x, y := adjusted(a, f); r != x || g != y {
			t.Errorf("Daa(%02x, %02x) = %02x, %02x, want %02x, %02x", a, f, r, g, x, y)
		}
		r, g = shift.Cpl(a, f)
		if x, y := complemented(a, f); r != x || g != y {
			t.Errorf("Cpl(%02x, %02x) = %02x, %02x, want %02x, %02x", a, f, r, g, x, y)
		}
		if g := shift.Scf(a, f); g != cSet(a, f) {
			t.Errorf("Scf(%02x, %02x) = %02x, want %02x", a, f, g, cSet(a, f))
		}
		if g := shift.Ccf(a, f); g != cTurned(a, f) {
			t.Errorf("Ccf(%02x, %02x) = %02x, want %02x", a, f, g, cTurned(a, f))
		}
		return !t.Failed()
	})
}

// P6.2: each two bytes; of the flags C alone stays.
func TestFourBitsGoneRoundOfAllBytes(t *testing.T) {
	for _, f := range []byte{0x00, 0x01, 0xfe, 0xff} {
		eachPair(func(a, m byte) bool {
			high, low := a/16*16, a%16
			r, n, g := shift.Rld(a, m, f)
			if x := high + m/16; r != x || n != m%16*16+low || g != own(x)|copied(f, api.FlagC) {
				t.Errorf("Rld(%02x, %02x, %02x) = %02x, %02x, %02x", a, m, f, r, n, g)
			}
			r, n, g = shift.Rrd(a, m, f)
			if x := high + m%16; r != x || n != low*16+m/16 || g != own(x)|copied(f, api.FlagC) {
				t.Errorf("Rrd(%02x, %02x, %02x) = %02x, %02x, %02x", a, m, f, r, n, g)
			}
			return !t.Failed()
		})
	}
}

// P6.2: one way and the other way are themselves again, and so are three times one way.
func TestFourBitsGoneRoundAndBack(t *testing.T) {
	eachPair(func(a, m byte) bool {
		r, n, _ := shift.Rld(a, m, 0)
		if r, n, _ = shift.Rrd(r, n, 0); r != a || n != m {
			t.Errorf("%02x, %02x: there and back %02x, %02x", a, m, r, n)
		}
		for range 3 {
			r, n, _ = shift.Rld(r, n, 0)
		}
		if r != a || n != m {
			t.Errorf("%02x, %02x: three times %02x, %02x", a, m, r, n)
		}
		return !t.Failed()
	})
}

// inTens writes a number of 0 to 99 with four bits a digit.
func inTens(n int) byte {
	return byte(n/10*16 + n%10)
}

// P6.3
func TestASumInTens(t *testing.T) {
	for x := range 100 {
		for y := range 100 {
			for c := range 2 {
				sum, f := alu.Add(inTens(x), inTens(y), c == 1)
				r, g := shift.Daa(sum, f)
				whole := x + y + c
				if r != inTens(whole%100) || (g&api.FlagC != 0) != (whole > 99) {
					t.Errorf("%d and %d and %d: %02x, %02x", x, y, c, r, g)
				}
			}
		}
	}
}
