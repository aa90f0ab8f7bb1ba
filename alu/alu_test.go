package alu_test

import (
	"testing"

	"pendulum/alu"
	"pendulum/api"
)

// own is what the chapter says of a byte's own flags, one by one.
func own(r byte) byte {
	var f byte
	for _, flag := range []byte{api.FlagS, api.FlagY, api.FlagX} {
		if r&flag != 0 {
			f |= flag
		}
	}
	if r == 0 {
		f |= api.FlagZ
	}
	return f
}

// even tells the parity by dropping a bit that is set, one by one.
func even(r byte) bool {
	is := true
	for ; r != 0; r &= r - 1 {
		is = !is
	}
	return is
}

// added adds bit by bit, so that it shares nothing with sums of whole numbers:
// H and C are what goes out of the bits 3 and 7, and it is overflow, if what
// goes into bit 7 is not what goes out of it.
func added(a, b byte, carry bool) (r, f byte) {
	var into, out [8]bool
	for i := range 8 {
		x, y := a>>i&1 != 0, b>>i&1 != 0
		into[i] = carry
		if (x != y) != carry {
			r |= 1 << i
		}
		carry = x && y || x && carry || y && carry
		out[i] = carry
	}
	f = own(r)
	if out[7] {
		f |= api.FlagC
	}
	if out[3] {
		f |= api.FlagH
	}
	if into[7] != out[7] {
		f |= api.FlagP
	}
	return r, f
}

// subtracted adds the complement: what is borrowed is a carry that is missing.
func subtracted(a, b byte, carry bool) (r, f byte) {
	r, f = added(a, ^b, !carry)
	return r, f ^ (api.FlagC | api.FlagH) | api.FlagN
}

// bitwise makes each bit of two.
func bitwise(a, b byte, bit func(x, y bool) bool) (r, f byte) {
	for i := range 8 {
		if bit(a>>i&1 != 0, b>>i&1 != 0) {
			r |= 1 << i
		}
	}
	f = own(r)
	if even(r) {
		f |= api.FlagP
	}
	return r, f
}

func anded(a, b byte) (r, f byte) {
	r, f = bitwise(a, b, func(x, y bool) bool { return x && y })
	return r, f | api.FlagH
}

func ored(a, b byte) (r, f byte) {
	return bitwise(a, b, func(x, y bool) bool { return x || y })
}

func xored(a, b byte) (r, f byte) {
	return bitwise(a, b, func(x, y bool) bool { return x != y })
}

// compared is a subtraction's flags, but Y and X one by one of b.
func compared(a, b byte) byte {
	_, f := subtracted(a, b, false)
	for _, flag := range []byte{api.FlagY, api.FlagX} {
		f &^= flag
		if b&flag != 0 {
			f |= flag
		}
	}
	return f
}

// withC is f, but C that of g.
func withC(f, g byte) byte {
	if g&api.FlagC != 0 {
		return f | api.FlagC
	}
	return f &^ api.FlagC
}

// eachPair calls f with each two bytes, till it answers false.
func eachPair(f func(a, b byte) bool) {
	for a := range 256 {
		for b := range 256 {
			if !f(byte(a), byte(b)) {
				return
			}
		}
	}
}

// P5.1
func TestOwn(t *testing.T) {
	for _, x := range []struct{ r, want byte }{
		{0x00, 0x40},
		{0x01, 0x00},
		{0x08, 0x08},
		{0x20, 0x20},
		{0x28, 0x28},
		{0x40, 0x00},
		{0x57, 0x00},
		{0x80, 0x80},
		{0xa8, 0xa8},
		{0xff, 0xa8},
	} {
		if got := alu.Own(x.r); got != x.want {
			t.Errorf("Own(%02x) = %02x, want %02x", x.r, got, x.want)
		}
	}
	for i := range 256 {
		if r := byte(i); alu.Own(r) != own(r) {
			t.Errorf("Own(%02x) = %02x, want %02x", r, alu.Own(r), own(r))
		}
	}
}

// P5.1
func TestParity(t *testing.T) {
	for _, x := range []struct {
		r    byte
		want bool
	}{{0x00, true}, {0x01, false}, {0x80, false}, {0x81, true}, {0x7f, false}, {0xfe, false}, {0xff, true}} {
		if got := alu.Parity(x.r); got != x.want {
			t.Errorf("Parity(%02x) = %t", x.r, got)
		}
	}
	for i := range 256 {
		if r := byte(i); alu.Parity(r) != even(r) {
			t.Errorf("Parity(%02x) = %t", r, alu.Parity(r))
		}
	}
}

// P5.1: the chapter's examples, and the edges of each flag.
func TestAdd(t *testing.T) {
	for _, x := range []struct {
		a, b  byte
		carry bool
		r, f  byte
	}{
		{0x7f, 0x01, false, 0x80, 0x94},
		{0xff, 0x01, false, 0x00, 0x51},
		{0x00, 0x00, false, 0x00, 0x40},
		{0x00, 0x00, true, 0x01, 0x00},
		{0xff, 0x00, false, 0xff, 0xa8},
		{0xff, 0x00, true, 0x00, 0x51},
		{0xfe, 0x01, false, 0xff, 0xa8},
		{0xff, 0xff, true, 0xff, 0xb9},
		{0x0f, 0x00, true, 0x10, 0x10},
		{0x07, 0x08, false, 0x0f, 0x08},
		{0x07, 0x08, true, 0x10, 0x10},
		{0x7f, 0x00, false, 0x7f, 0x28},
		{0x7f, 0x00, true, 0x80, 0x94},
		{0x80, 0x80, false, 0x00, 0x45},
		{0x80, 0xff, false, 0x7f, 0x2d},
		{0x80, 0xff, true, 0x80, 0x91},
		{0x7f, 0x7f, true, 0xff, 0xbc},
	} {
		if r, f := alu.Add(x.a, x.b, x.carry); r != x.r || f != x.f {
			t.Errorf("Add(%02x, %02x, %t) = %02x, %02x, want %02x, %02x", x.a, x.b, x.carry, r, f, x.r, x.f)
		}
	}
}

// P5.1: the chapter's example, and the edges of each flag.
func TestSub(t *testing.T) {
	for _, x := range []struct {
		a, b  byte
		carry bool
		r, f  byte
	}{
		{0x00, 0x01, false, 0xff, 0xbb},
		{0x00, 0x00, false, 0x00, 0x42},
		{0x00, 0x00, true, 0xff, 0xbb},
		{0x01, 0x00, true, 0x00, 0x42},
		{0x10, 0x01, false, 0x0f, 0x1a},
		{0x11, 0x01, false, 0x10, 0x02},
		{0x11, 0x01, true, 0x0f, 0x1a},
		{0x80, 0x01, false, 0x7f, 0x3e},
		{0x80, 0x00, false, 0x80, 0x82},
		{0x80, 0x00, true, 0x7f, 0x3e},
		{0x7f, 0xff, false, 0x80, 0x87},
		{0x7f, 0xff, true, 0x7f, 0x3b},
		{0x00, 0x80, false, 0x80, 0x87},
		{0x00, 0x80, true, 0x7f, 0x3b},
		{0x00, 0xff, false, 0x01, 0x13},
		{0x00, 0xff, true, 0x00, 0x53},
		{0xff, 0xff, false, 0x00, 0x42},
		{0xff, 0xff, true, 0xff, 0xbb},
	} {
		if r, f := alu.Sub(x.a, x.b, x.carry); r != x.r || f != x.f {
			t.Errorf("Sub(%02x, %02x, %t) = %02x, %02x, want %02x, %02x", x.a, x.b, x.carry, r, f, x.r, x.f)
		}
	}
}

// P5.1
func TestCp(t *testing.T) {
	for _, x := range []struct{ a, b, f byte }{
		{0x10, 0x28, 0xbb},
		{0x28, 0x28, 0x6a},
		{0x00, 0x00, 0x42},
		{0x28, 0x00, 0x02},
		{0x00, 0x28, 0xbb},
		{0x50, 0x20, 0x22},
		{0x50, 0x08, 0x1a},
		{0x80, 0x01, 0x16},
	} {
		if f := alu.Cp(x.a, x.b); f != x.f {
			t.Errorf("Cp(%02x, %02x) = %02x, want %02x", x.a, x.b, f, x.f)
		}
	}
}

// P5.1
func TestAndOrXor(t *testing.T) {
	type call func(a, b byte) (r, f byte)
	for _, x := range []struct {
		name string
		call call
		a, b byte
		r, f byte
	}{
		{"And", alu.And, 0xf0, 0x3c, 0x30, 0x34},
		{"And", alu.And, 0xf0, 0x0f, 0x00, 0x54},
		{"And", alu.And, 0xff, 0x01, 0x01, 0x10},
		{"And", alu.And, 0xff, 0xff, 0xff, 0xbc},
		{"Or", alu.Or, 0xf0, 0x0f, 0xff, 0xac},
		{"Or", alu.Or, 0x00, 0x00, 0x00, 0x44},
		{"Or", alu.Or, 0x01, 0x01, 0x01, 0x00},
		{"Xor", alu.Xor, 0x55, 0x55, 0x00, 0x44},
		{"Xor", alu.Xor, 0x55, 0xaa, 0xff, 0xac},
		{"Xor", alu.Xor, 0xff, 0x01, 0xfe, 0xa8},
	} {
		if r, f := x.call(x.a, x.b); r != x.r || f != x.f {
			t.Errorf("%s(%02x, %02x) = %02x, %02x, want %02x, %02x", x.name, x.a, x.b, r, f, x.r, x.f)
		}
	}
}

// P5.1: each two bytes, with and without a carry.
func TestSumsOfAllBytes(t *testing.T) {
	for _, carry := range []bool{false, true} {
		eachPair(func(a, b byte) bool {
			r, f := alu.Add(a, b, carry)
			if x, y := added(a, b, carry); r != x || f != y {
				t.Errorf("Add(%02x, %02x, %t) = %02x, %02x, want %02x, %02x", a, b, carry, r, f, x, y)
			}
			r, f = alu.Sub(a, b, carry)
			if x, y := subtracted(a, b, carry); r != x || f != y {
				t.Errorf("Sub(%02x, %02x, %t) = %02x, %02x, want %02x, %02x", a, b, carry, r, f, x, y)
			}
			return !t.Failed()
		})
	}
}

// P5.1: each two bytes.
func TestComparisonsAndLogicOfAllBytes(t *testing.T) {
	eachPair(func(a, b byte) bool {
		if f := alu.Cp(a, b); f != compared(a, b) {
			t.Errorf("Cp(%02x, %02x) = %02x, want %02x", a, b, f, compared(a, b))
		}
		r, f := alu.And(a, b)
		if x, y := anded(a, b); r != x || f != y {
			t.Errorf("And(%02x, %02x) = %02x, %02x, want %02x, %02x", a, b, r, f, x, y)
		}
		r, f = alu.Or(a, b)
		if x, y := ored(a, b); r != x || f != y {
			t.Errorf("Or(%02x, %02x) = %02x, %02x, want %02x, %02x", a, b, r, f, x, y)
		}
		r, f = alu.Xor(a, b)
		if x, y := xored(a, b); r != x || f != y {
			t.Errorf("Xor(%02x, %02x) = %02x, %02x, want %02x, %02x", a, b, r, f, x, y)
		}
		return !t.Failed()
	})
}

// P5.2
func TestIncAndDec(t *testing.T) {
	type call func(a, f byte) (r, g byte)
	for _, x := range []struct {
		name string
		call call
		a, f byte
		r, g byte
	}{
		{"Inc", alu.Inc, 0xff, 0x01, 0x00, 0x51},
		{"Inc", alu.Inc, 0xff, 0x00, 0x00, 0x50},
		{"Inc", alu.Inc, 0xff, 0xfe, 0x00, 0x50},
		{"Inc", alu.Inc, 0x7f, 0x00, 0x80, 0x94},
		{"Inc", alu.Inc, 0x00, 0xff, 0x01, 0x01},
		{"Inc", alu.Inc, 0x0f, 0x00, 0x10, 0x10},
		{"Dec", alu.Dec, 0x00, 0x00, 0xff, 0xba},
		{"Dec", alu.Dec, 0x00, 0x01, 0xff, 0xbb},
		{"Dec", alu.Dec, 0x80, 0x00, 0x7f, 0x3e},
		{"Dec", alu.Dec, 0x01, 0xfe, 0x00, 0x42},
		{"Dec", alu.Dec, 0x01, 0xff, 0x00, 0x43},
		{"Dec", alu.Dec, 0x10, 0x00, 0x0f, 0x1a},
	} {
		if r, g := x.call(x.a, x.f); r != x.r || g != x.g {
			t.Errorf("%s(%02x, %02x) = %02x, %02x, want %02x, %02x", x.name, x.a, x.f, r, g, x.r, x.g)
		}
	}
}

// P5.2: each byte with all flags.
func TestIncAndDecOfAllBytes(t *testing.T) {
	eachPair(func(a, f byte) bool {
		r, g := alu.Inc(a, f)
		if x, y := added(a, 1, false); r != x || g != withC(y, f) {
			t.Errorf("Inc(%02x, %02x) = %02x, %02x, want %02x, %02x", a, f, r, g, x, withC(y, f))
		}
		r, g = alu.Dec(a, f)
		if x, y := subtracted(a, 1, false); r != x || g != withC(y, f) {
			t.Errorf("Dec(%02x, %02x) = %02x, %02x, want %02x, %02x", a, f, r, g, x, withC(y, f))
		}
		return !t.Failed()
	})
}

// P5.2
func TestNeg(t *testing.T) {
	for _, x := range []struct{ a, r, f byte }{
		{0x80, 0x80, 0x87},
		{0x00, 0x00, 0x42},
		{0x01, 0xff, 0xbb},
		{0xff, 0x01, 0x13},
		{0x10, 0xf0, 0xa3},
		{0x7f, 0x81, 0x93},
	} {
		if r, f := alu.Neg(x.a); r != x.r || f != x.f {
			t.Errorf("Neg(%02x) = %02x, %02x, want %02x, %02x", x.a, r, f, x.r, x.f)
		}
	}
	for i := range 256 {
		a := byte(i)
		r, f := alu.Neg(a)
		if x, y := subtracted(0, a, false); r != x || f != y {
			t.Errorf("Neg(%02x) = %02x, %02x, want %02x, %02x", a, r, f, x, y)
		}
	}
}

// P5.3
func TestASumLessWhatWasAdded(t *testing.T) {
	for _, carry := range []bool{false, true} {
		eachPair(func(a, b byte) bool {
			sum, f := alu.Add(a, b, carry)
			back, g := alu.Sub(sum, b, carry)
			if back != a || (f^g)&api.FlagC != 0 {
				t.Errorf("%02x and %02x, %t: %02x, %02x; less it %02x, %02x", a, b, carry, sum, f, back, g)
			}
			rest, f := alu.Sub(a, b, carry)
			back, g = alu.Add(rest, b, carry)
			if back != a || (f^g)&api.FlagC != 0 {
				t.Errorf("%02x less %02x, %t: %02x, %02x; and it %02x, %02x", a, b, carry, rest, f, back, g)
			}
			return !t.Failed()
		})
	}
}

// P5.3
func TestNumbersOfManyBytes(t *testing.T) {
	numbers := []uint64{0, 1, 0xff, 0x100, 0x7fffffff, 0x80000000, 0xff00ff00ff00ff00, 0x0123456789abcdef, 1 << 63, 1<<63 - 1, 1<<64 - 1}
	for _, a := range numbers {
		for _, b := range numbers {
			if sum, c := byteByByte(alu.Add, a, b); sum != a+b || c != (a+b < a) {
				t.Errorf("%x and %x: %x, carry %t", a, b, sum, c)
			}
			if rest, c := byteByByte(alu.Sub, a, b); rest != a-b || c != (a < b) {
				t.Errorf("%x less %x: %x, carry %t", a, b, rest, c)
			}
		}
	}
}

// byteByByte goes from the lowest byte on, each carry going to the next.
func byteByByte(call func(a, b byte, carry bool) (r, f byte), a, b uint64) (all uint64, carry bool) {
	for i := 0; i < 64; i += 8 {
		r, f := call(byte(a>>i), byte(b>>i), carry)
		all |= uint64(r) << i
		carry = f&api.FlagC != 0
	}
	return all, carry
}
