package alu_test

import (
	"math"
	"testing"

	"pendulum/alu"
	"pendulum/api"
)

// done is what the chapter says of each op of 0 to 7.
func done(op int, a, b, f byte) (r, g byte) {
	carry := f&api.FlagC != 0
	switch op {
	case 0:
		return added(a, b, false)
	case 1:
		return added(a, b, carry)
	case 2:
		return subtracted(a, b, false)
	case 3:
		return subtracted(a, b, carry)
	case 4:
		return anded(a, b)
	case 5:
		return xored(a, b)
	case 6:
		return ored(a, b)
	}
	return a, compared(a, b)
}

// P5.2
func TestDo(t *testing.T) {
	for _, x := range []struct {
		op      int
		a, b, f byte
		r, g    byte
	}{
		{0, 0x7f, 0x01, 0x00, 0x80, 0x94},
		{0, 0xfe, 0x01, 0xff, 0xff, 0xa8},
		{1, 0xfe, 0x01, 0x01, 0x00, 0x51},
		{1, 0xfe, 0x01, 0xfe, 0xff, 0xa8},
		{2, 0x00, 0x01, 0x00, 0xff, 0xbb},
		{2, 0x01, 0x01, 0xff, 0x00, 0x42},
		{3, 0x01, 0x01, 0x01, 0xff, 0xbb},
		{3, 0x01, 0x01, 0xfe, 0x00, 0x42},
		{4, 0xf0, 0x3c, 0xff, 0x30, 0x34},
		{5, 0xf0, 0x3c, 0xff, 0xcc, 0x8c},
		{6, 0xf0, 0x3c, 0xff, 0xfc, 0xac},
		{7, 0x10, 0x28, 0x00, 0x10, 0xbb},
		{7, 0x10, 0x10, 0xff, 0x10, 0x42},
	} {
		if r, g := alu.Do(x.op, x.a, x.b, x.f); r != x.r || g != x.g {
			t.Errorf("Do(%d, %02x, %02x, %02x) = %02x, %02x, want %02x, %02x", x.op, x.a, x.b, x.f, r, g, x.r, x.g)
		}
	}
}

// P5.2: of f C alone counts.
func TestDoOfAllBytes(t *testing.T) {
	for op := range 8 {
		for _, f := range []byte{0x00, 0x01, 0xfe, 0xff} {
			eachPair(func(a, b byte) bool {
				r, g := alu.Do(op, a, b, f)
				if x, y := done(op, a, b, f); r != x || g != y {
					t.Errorf("Do(%d, %02x, %02x, %02x) = %02x, %02x, want %02x, %02x", op, a, b, f, r, g, x, y)
				}
				return !t.Failed()
			})
		}
	}
}

// P5.2: op counts modulo 8, below 0 and far off too.
func TestDoOfAnyOp(t *testing.T) {
	ops := []struct{ op, is int }{
		{math.MinInt, 0}, {math.MinInt + 1, 1}, {math.MinInt + 7, 7},
		{math.MaxInt, 7}, {math.MaxInt - 1, 6}, {math.MaxInt - 7, 0},
		{math.MinInt32, 0}, {math.MaxInt32, 7}, {256, 0}, {259, 3}, {-256, 0}, {-257, 7},
	}
	for i := range 8 {
		for _, turns := range []int{-3, -2, -1, 0, 1, 2} {
			ops = append(ops, struct{ op, is int }{8*turns + i, i})
		}
	}
	for _, o := range ops {
		for _, x := range []struct{ a, b, f byte }{{0x9c, 0x6a, 0x00}, {0x9c, 0x6a, 0x01}, {0x00, 0xff, 0xff}, {0x80, 0x01, 0xfe}} {
			r, g := alu.Do(o.op, x.a, x.b, x.f)
			if y, z := done(o.is, x.a, x.b, x.f); r != y || g != z {
				t.Errorf("Do(%d, %02x, %02x, %02x) = %02x, %02x, want %02x, %02x", o.op, x.a, x.b, x.f, r, g, y, z)
			}
		}
	}
}
