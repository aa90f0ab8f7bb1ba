package shift_test

import (
	"math"
	"testing"

	"pendulum/api"
	"pendulum/shift"
)

// digits are the eight bits of a byte, the highest first, as a number is written.
func digits(a byte) []int {
	d := make([]int, 8)
	for i := range d {
		d[7-i] = int(a>>i) & 1
	}
	return d
}

// number reads what digits wrote.
func number(d []int) byte {
	n := 0
	for _, digit := range d {
		n = 2*n + digit
	}
	return byte(n)
}

// moved is what the chapter says of each op of 0 to 7, as digits are written:
// what goes out at one end, and what comes in at the other.
func moved(op int, a, f byte) (r byte, out int) {
	d := digits(a)
	highest, lowest := d[0], d[7]
	c := digits(f)[7]
	left := func(in int) (byte, int) { return number(append(d[1:8:8], in)), highest }
	right := func(in int) (byte, int) { return number(append([]int{in}, d[:7]...)), lowest }
	switch op {
	case 0:
		return left(highest)
	case 1:
		return right(lowest)
	case 2:
		return left(c)
	case 3:
		return right(c)
	case 4:
		return left(0)
	case 5:
		return right(highest)
	case 6:
		return left(1)
	}
	return right(0)
}

// flag answers a flag that is set or not.
func flag(is bool, which byte) byte {
	if is {
		return which
	}
	return 0
}

// copied answers the flags that stand in which as f has them, one by one.
func copied(f byte, which ...byte) byte {
	g := byte(0)
	for _, one := range which {
		g |= flag(f&one != 0, one)
	}
	return g
}

// own is r's own flags and its parity, told by its digits.
func own(r byte) byte {
	ones := 0
	for _, digit := range digits(r) {
		ones += digit
	}
	return copied(r, api.FlagS, api.FlagY, api.FlagX) | flag(ones == 0, api.FlagZ) | flag(ones%2 == 0, api.FlagP)
}

func shifted(op int, a, f byte) (r, g byte) {
	r, out := moved(op, a, f)
	return r, own(r) | flag(out == 1, api.FlagC)
}

func turned(op int, a, f byte) (r, g byte) {
	r, out := moved(op, a, f)
	return r, copied(f, api.FlagS, api.FlagZ, api.FlagP) | copied(r, api.FlagY, api.FlagX) | flag(out == 1, api.FlagC)
}

func bitTold(n int, a, from, f byte) byte {
	is := digits(a)[7-n] == 1
	return flag(!is, api.FlagZ) | flag(!is, api.FlagP) | flag(is && n == 7, api.FlagS) |
		api.FlagH | copied(from, api.FlagY, api.FlagX) | copied(f, api.FlagC)
}

func with(n int, a byte, digit int) byte {
	d := digits(a)
	d[7-n] = digit
	return number(d)
}

// eachPair calls f with each two bytes, till it answers false.
func eachPair(f func(a, b byte) bool) {
	for a := range 256 {
		for b := range 256 {
			if !f(byte(a), byte(b)) {
				return
			}
		}
	}
}

// modulo is a number and what it counts as.
type modulo struct{ n, is int }

// anyNumbers answers numbers near 0, far off and below 0, and what they count as modulo m.
func anyNumbers(m int) []modulo {
	l := []modulo{
		{math.MinInt, 0}, {math.MinInt + 1, 1}, {math.MinInt + 3, 3},
		{math.MaxInt, m - 1}, {math.MaxInt - 1, m - 2}, {math.MaxInt - m + 1, 0},
		{math.MinInt32, 0}, {math.MaxInt32, m - 1}, {256, 0}, {257, 1}, {-256, 0}, {-257, m - 1},
	}
	for is := range m {
		for _, turns := range []int{-9, -3, -2, -1, 1, 2, 9} {
			l = append(l, modulo{m*turns + is, is})
		}
	}
	return l
}

// P6.1: the chapter's examples, and the edges of each op.
func TestShift(t *testing.T) {
	for _, x := range []struct {
		op   int
		a, f byte
		r, g byte
	}{
		{0, 0x81, 0x00, 0x03, 0x05},
		{0, 0x80, 0x00, 0x01, 0x01},
		{0, 0x00, 0xff, 0x00, 0x44},
		{0, 0x14, 0x01, 0x28, 0x2c},
		{1, 0x01, 0x00, 0x80, 0x81},
		{1, 0x80, 0x01, 0x40, 0x00},
		{2, 0x80, 0x00, 0x00, 0x45},
		{2, 0x80, 0x01, 0x01, 0x01},
		{2, 0x00, 0xfe, 0x00, 0x44},
		{3, 0x01, 0x01, 0x80, 0x81},
		{3, 0x01, 0x00, 0x00, 0x45},
		{3, 0x00, 0xfe, 0x00, 0x44},
		{4, 0xff, 0x01, 0xfe, 0xa9},
		{4, 0x40, 0x01, 0x80, 0x80},
		{5, 0x80, 0x00, 0xc0, 0x84},
		{5, 0x01, 0xff, 0x00, 0x45},
		{5, 0xff, 0x00, 0xff, 0xad},
		{6, 0x00, 0x00, 0x01, 0x00},
		{6, 0x80, 0x00, 0x01, 0x01},
		{6, 0xff, 0x00, 0xff, 0xad},
		{7, 0x01, 0x00, 0x00, 0x45},
		{7, 0x80, 0xff, 0x40, 0x00},
		{7, 0xff, 0xff, 0x7f, 0x29},
	} {
		if r, g := shift.Shift(x.op, x.a, x.f); r != x.r || g != x.g {
			t.Errorf("Shift(%d, %02x, %02x) = %02x, %02x, want %02x, %02x", x.op, x.a, x.f, r, g, x.r, x.g)
		}
	}
}

// P6.1
func TestTurn(t *testing.T) {
	for _, x := range []struct {
		op   int
		a, f byte
		r, g byte
	}{
		{0, 0x80, 0x00, 0x01, 0x01},
		{0, 0x00, 0x00, 0x00, 0x00},
		{0, 0x00, 0xff, 0x00, 0xc4},
		{0, 0x14, 0xff, 0x28, 0xec},
		{1, 0x01, 0xc4, 0x80, 0xc5},
		{1, 0x01, 0x00, 0x80, 0x01},
		{2, 0x80, 0x01, 0x01, 0x01},
		{2, 0x80, 0x12, 0x00, 0x01},
		{3, 0x01, 0x01, 0x80, 0x01},
		{3, 0x50, 0x3a, 0x28, 0x28},
	} {
		if r, g := shift.Turn(x.op, x.a, x.f); r != x.r || g != x.g {
			t.Errorf("Turn(%d, %02x, %02x) = %02x, %02x, want %02x, %02x", x.op, x.a, x.f, r, g, x.r, x.g)
		}
	}
}

// P6.1
func TestBit(t *testing.T) {
	for _, x := range []struct {
		n          int
		a, from, f byte
		g          byte
	}{
		{7, 0x80, 0x28, 0x01, 0xb9},
		{7, 0x80, 0x00, 0x00, 0x90},
		{7, 0x7f, 0x00, 0x00, 0x54},
		{0, 0x01, 0x00, 0x00, 0x10},
		{0, 0xfe, 0x00, 0x01, 0x55},
		{6, 0xff, 0x00, 0xfe, 0x10},
		{6, 0xbf, 0xff, 0xff, 0x7d},
		{5, 0x20, 0x08, 0x00, 0x18},
		{3, 0x08, 0x20, 0x00, 0x30},
		{3, 0xf7, 0xd7, 0xfe, 0x54},
	} {
		if g := shift.Bit(x.n, x.a, x.from, x.f); g != x.g {
			t.Errorf("Bit(%d, %02x, %02x, %02x) = %02x, want %02x", x.n, x.a, x.from, x.f, g, x.g)
		}
	}
}

// P6.1
func TestResAndSet(t *testing.T) {
	for _, x := range []struct {
		n           int
		a, res, set byte
	}{
		{0, 0x00, 0x00, 0x01}, {0, 0xff, 0xfe, 0xff},
		{7, 0x00, 0x00, 0x80}, {7, 0xff, 0x7f, 0xff},
		{4, 0x55, 0x45, 0x55}, {4, 0xaa, 0xaa, 0xba},
		{-1, 0x00, 0x00, 0x80}, {-8, 0xff, 0xfe, 0xff}, {8, 0x00, 0x00, 0x01},
	} {
		if got := shift.Res(x.n, x.a); got != x.res {
			t.Errorf("Res(%d, %02x) = %02x, want %02x", x.n, x.a, got, x.res)
		}
		if got := shift.Set(x.n, x.a); got != x.set {
			t.Errorf("Set(%d, %02x) = %02x, want %02x", x.n, x.a, got, x.set)
		}
	}
}

// P6.1: each byte with all flags.
func TestShiftsAndTurnsOfAllBytes(t *testing.T) {
	for op := range 8 {
		eachPair(func(a, f byte) bool {
			r, g := shift.Shift(op, a, f)
			if x, y := shifted(op, a, f); r != x || g != y {
				t.Errorf("Shift(%d, %02x, %02x) = %02x, %02x, want %02x, %02x", op, a, f, r, g, x, y)
			}
			r, g = shift.Turn(op, a, f)
			if x, y := turned(op%4, a, f); r != x || g != y {
				t.Errorf("Turn(%d, %02x, %02x) = %02x, %02x, want %02x, %02x", op, a, f, r, g, x, y)
			}
			return !t.Failed()
		})
	}
}

// P6.1: each bit of each byte, with all bytes that Y and X may come from.
func TestBitsOfAllBytes(t *testing.T) {
	for n := range 8 {
		eachPair(func(a, from byte) bool {
			for _, f := range []byte{0x00, 0x01, 0xfe, 0xff, ^from} {
				if g := shift.Bit(n, a, from, f); g != bitTold(n, a, from, f) {
					t.Errorf("Bit(%d, %02x, %02x, %02x) = %02x, want %02x", n, a, from, f, g, bitTold(n, a, from, f))
				}
			}
			return !t.Failed()
		})
		for i := range 256 {
			a := byte(i)
			if got := shift.Res(n, a); got != with(n, a, 0) {
				t.Errorf("Res(%d, %02x) = %02x", n, a, got)
			}
			if got := shift.Set(n, a); got != with(n, a, 1) {
				t.Errorf("Set(%d, %02x) = %02x", n, a, got)
			}
		}
	}
}

// P6.1: op and n count modulo 8, below 0 and far off too.
func TestAnyOpAndAnyBit(t *testing.T) {
	for _, o := range anyNumbers(8) {
		for _, x := range []struct{ a, f byte }{{0x9c, 0x00}, {0x9d, 0x01}, {0x63, 0xff}, {0x80, 0xfe}, {0x01, 0x01}} {
			r, g := shift.Shift(o.n, x.a, x.f)
			if y, z := shifted(o.is, x.a, x.f); r != y || g != z {
				t.Errorf("Shift(%d, %02x, %02x) = %02x, %02x, want %02x, %02x", o.n, x.a, x.f, r, g, y, z)
			}
			if g := shift.Bit(o.n, x.a, x.f, x.f); g != bitTold(o.is, x.a, x.f, x.f) {
				t.Errorf("Bit(%d, %02x, %02x, %02x) = %02x", o.n, x.a, x.f, x.f, g)
			}
			if got := shift.Res(o.n, x.a); got != with(o.is, x.a, 0) {
				t.Errorf("Res(%d, %02x) = %02x", o.n, x.a, got)
			}
			if got := shift.Set(o.n, x.a); got != with(o.is, x.a, 1) {
				t.Errorf("Set(%d, %02x) = %02x", o.n, x.a, got)
			}
		}
	}
}

// P6.1: Turn's op counts modulo 4, so 4 to 7 are turns too.
func TestTurnOfAnyOp(t *testing.T) {
	for _, o := range anyNumbers(4) {
		for _, x := range []struct{ a, f byte }{{0x9c, 0x00}, {0x9d, 0x01}, {0x63, 0xff}, {0x80, 0xfe}, {0x01, 0x01}} {
			r, g := shift.Turn(o.n, x.a, x.f)
			if y, z := turned(o.is, x.a, x.f); r != y || g != z {
				t.Errorf("Turn(%d, %02x, %02x) = %02x, %02x, want %02x, %02x", o.n, x.a, x.f, r, g, y, z)
			}
		}
	}
}

// again answers what is there behind so many calls, each handed what the one ahead made.
func again(times int, a, f byte, call func(a, f byte) (r, g byte)) (r, g byte) {
	for range times {
		a, f = call(a, f)
	}
	return a, f
}

// P6.3: eight times in eight bits, nine times in nine (C is the ninth).
func TestTurnedAllTheWay(t *testing.T) {
	for op := range 4 {
		times := 8
		if op >= 2 {
			times = 9
		}
		turn := func(a, f byte) (r, g byte) { return shift.Turn(op, a, f) }
		move := func(a, f byte) (r, g byte) { return shift.Shift(op, a, f) }
		eachPair(func(a, f byte) bool {
			r, g := again(times, a, f, turn)
			s, h := again(times, a, f, move)
			if r != a || s != a {
				t.Errorf("op %d, %d times of %02x, %02x: %02x, %02x", op, times, a, f, r, s)
			}
			if times == 9 && ((g^f)&api.FlagC != 0 || (h^f)&api.FlagC != 0) {
				t.Errorf("op %d, %d times of %02x, %02x: flags %02x, %02x", op, times, a, f, g, h)
			}
			return !t.Failed()
		})
	}
}

// P6.3: what went out comes in again, and what came in goes out.
func TestALeftShiftIsUndoneByARightOne(t *testing.T) {
	for _, op := range []int{0, 2, 4, 6} {
		eachPair(func(a, f byte) bool {
			r, g := shift.Shift(op, a, f)
			back, h := shift.Shift(3, r, g)
			if back != a || h&api.FlagC != r&1 {
				t.Errorf("Shift(%d, %02x, %02x) = %02x, %02x; back %02x, %02x", op, a, f, r, g, back, h)
			}
			if op == 2 && h&api.FlagC != f&api.FlagC {
				t.Errorf("Shift(%d, %02x, %02x) and back: flags %02x", op, a, f, h)
			}
			return !t.Failed()
		})
	}
}
