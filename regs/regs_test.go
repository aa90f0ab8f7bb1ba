package regs_test

import (
	"math"
	"testing"

	"pendulum/api"
	"pendulum/regs"
)

// full has another value in each place.
func full() api.Regs {
	return api.Regs{
		A: 0x11, F: 0x22, B: 0x33, C: 0x44, D: 0x55, E: 0x66, H: 0x77, L: 0x88, I: 0x99, R: 0xaa,
		IX: 0x1234, IY: 0x5678, SP: 0x9abc, PC: 0xdef0, WZ: 0x0fed,
		AF2: 0xcba9, BC2: 0x8765, DE2: 0x4321, HL2: 0x0246,
		IFF1: true, IFF2: false, IM: 2, Halt: false, Late: true,
	}
}

// ones has every bit of bytes and words set.
func ones() api.Regs {
	return api.Regs{
		A: 0xff, F: 0xff, B: 0xff, C: 0xff, D: 0xff, E: 0xff, H: 0xff, L: 0xff, I: 0xff, R: 0xff,
		IX: 0xffff, IY: 0xffff, SP: 0xffff, PC: 0xffff, WZ: 0xffff,
		AF2: 0xffff, BC2: 0xffff, DE2: 0xffff, HL2: 0xffff,
		IFF1: true, IFF2: true, IM: 1, Halt: true, Late: true,
	}
}

// some are registers, such as may not be among them: codes are told of them too.
func some() []api.Regs {
	odd := full()
	odd.IM = -7
	return []api.Regs{{}, regs.Reset(), full(), ones(), odd}
}

// numbers are codes, indexes and the like: around 0, and far off.
func numbers() []int {
	list := []int{math.MinInt, math.MinInt + 1, math.MinInt + 2, math.MinInt + 5, math.MaxInt - 1, math.MaxInt, 1 << 40, -1 << 40}
	for n := -26; n <= 26; n++ {
		list = append(list, n)
	}
	return list
}

// modulo is what is left of n behind the greatest multiple of m that is not above it.
func modulo(n, m int) int {
	times := n / m
	if times*m > n {
		times--
	}
	return n - times*m
}

// theByte is what the chapter says of a byte's code.
func theByte(r api.Regs, index, code int) byte {
	switch modulo(code, 8) {
	case 0:
		return r.B
	case 1:
		return r.C
	case 2:
		return r.D
	case 3:
		return r.E
	case 4:
		return byte(theIndex(r, index) / 256)
	case 5:
		return byte(theIndex(r, index) % 256)
	case 7:
		return r.A
	}
	return 0
}

func theIndex(r api.Regs, index int) uint16 {
	return [3]uint16{uint16(r.H)*256 + uint16(r.L), r.IX, r.IY}[modulo(index, 3)]
}

// withByte is r with another byte, set where the chapter has it.
func withByte(r api.Regs, index, code int, v byte) api.Regs {
	switch modulo(code, 8) {
	case 0:
		r.B = v
	case 1:
		r.C = v
	case 2:
		r.D = v
	case 3:
		r.E = v
	case 4:
		return withIndex(r, index, uint16(v)*256+theIndex(r, index)%256)
	case 5:
		return withIndex(r, index, theIndex(r, index)/256*256+uint16(v))
	case 7:
		r.A = v
	}
	return r
}

func withIndex(r api.Regs, index int, v uint16) api.Regs {
	switch modulo(index, 3) {
	case 0:
		r.H, r.L = byte(v/256), byte(v%256)
	case 1:
		r.IX = v
	case 2:
		r.IY = v
	}
	return r
}

func thePair(r api.Regs, index, code int, stack bool) uint16 {
	last := r.SP
	if stack {
		last = uint16(r.A)*256 + uint16(r.F)
	}
	return [4]uint16{
		uint16(r.B)*256 + uint16(r.C),
		uint16(r.D)*256 + uint16(r.E),
		theIndex(r, index),
		last,
	}[modulo(code, 4)]
}

func withPair(r api.Regs, index, code int, stack bool, v uint16) api.Regs {
	high, low := byte(v/256), byte(v%256)
	switch modulo(code, 4) {
	case 0:
		r.B, r.C = high, low
	case 1:
		r.D, r.E = high, low
	case 2:
		return withIndex(r, index, v)
	case 3:
		if stack {
			r.A, r.F = high, low
		} else {
			r.SP = v
		}
	}
	return r
}

// P8.1
func TestReset(t *testing.T) {
	want := api.Regs{A: 255, F: 255, SP: 65535, AF2: 65535}
	if r := regs.Reset(); r != want {
		t.Errorf("Reset() = %+v", r)
	}
}

// P8.1
func TestCheck(t *testing.T) {
	for _, x := range []struct {
		mode int
		want api.Errno
	}{
		{0, api.OK}, {1, api.OK}, {2, api.OK},
		{-1, api.ErrArg}, {3, api.ErrArg}, {256, api.ErrArg}, {258, api.ErrArg},
		{math.MinInt, api.ErrArg}, {math.MaxInt, api.ErrArg}, {1 << 32, api.ErrArg},
	} {
		for _, r := range some() {
			r.IM = x.mode
			if err := regs.Check(r); err != x.want {
				t.Errorf("Check of mode %d = %d, want %d", x.mode, err, x.want)
			}
		}
	}
}

// P8.1: the chapter's example, and each code by its letter.
func TestGetAndPutByLetters(t *testing.T) {
	r := regs.Put(regs.Reset(), 1, 4, 0x12)
	if r.IX != 0x1200 || r.H != 0 || r.IY != 0 {
		t.Errorf("Put(Reset, 1, 4, 12) = %+v", r)
	}
	for _, x := range []struct {
		index, code int
		want        byte
	}{
		{0, 0, 0x33}, {0, 1, 0x44}, {0, 2, 0x55}, {0, 3, 0x66}, {0, 4, 0x77}, {0, 5, 0x88}, {0, 6, 0}, {0, 7, 0x11},
		{1, 0, 0x33}, {1, 4, 0x12}, {1, 5, 0x34}, {1, 6, 0}, {1, 7, 0x11},
		{2, 3, 0x66}, {2, 4, 0x56}, {2, 5, 0x78}, {2, 6, 0}, {2, 7, 0x11},
		{-1, 4, 0x56}, {-2, 5, 0x34}, {-3, 4, 0x77}, {3, 5, 0x88}, {4, 4, 0x12},
		{0, -1, 0x11}, {0, -2, 0}, {0, -8, 0x33}, {1, -4, 0x12}, {0, 8, 0x33}, {2, 13, 0x78},
	} {
		if v := regs.Get(full(), x.index, x.code); v != x.want {
			t.Errorf("Get(%d, %d) = %02x, want %02x", x.index, x.code, v, x.want)
		}
	}
}

// P8.1, P8.3: what is put is there, and nothing else is another.
func TestGetAndPutOfAllCodes(t *testing.T) {
	for _, r := range some() {
		for _, index := range numbers() {
			for _, code := range numbers() {
				if v := regs.Get(r, index, code); v != theByte(r, index, code) {
					t.Fatalf("Get(%+v, %d, %d) = %02x", r, index, code, v)
				}
				for _, v := range []byte{0x00, 0x01, 0x5c, 0xff} {
					got := regs.Put(r, index, code, v)
					if got != withByte(r, index, code, v) {
						t.Fatalf("Put(%+v, %d, %d, %02x) = %+v", r, index, code, v, got)
					}
					if back := regs.Get(got, index, code); modulo(code, 8) != 6 && back != v {
						t.Fatalf("Get(%d, %d) of what was put, %02x, is %02x", index, code, v, back)
					}
				}
			}
		}
	}
}

// P8.1
func TestPairByLetters(t *testing.T) {
	for _, x := range []struct {
		index, code int
		stack       bool
		want        uint16
	}{
		{0, 0, false, 0x3344}, {0, 1, false, 0x5566}, {0, 2, false, 0x7788}, {0, 3, false, 0x9abc},
		{0, 0, true, 0x3344}, {0, 1, true, 0x5566}, {0, 2, true, 0x7788}, {0, 3, true, 0x1122},
		{1, 0, false, 0x3344}, {1, 2, false, 0x1234}, {1, 2, true, 0x1234}, {1, 3, true, 0x1122}, {1, 3, false, 0x9abc},
		{2, 1, true, 0x5566}, {2, 2, false, 0x5678}, {2, 2, true, 0x5678},
		{-1, 2, false, 0x5678}, {-2, 2, true, 0x1234}, {3, 2, false, 0x7788},
		{0, -1, true, 0x1122}, {0, -1, false, 0x9abc}, {0, 4, false, 0x3344}, {0, 7, true, 0x1122},
	} {
		if v := regs.Pair(full(), x.index, x.code, x.stack); v != x.want {
			t.Errorf("Pair(%d, %d, %t) = %04x, want %04x", x.index, x.code, x.stack, v, x.want)
		}
	}
}

// P8.1, P8.3
func TestPairAndPutPairOfAllCodes(t *testing.T) {
	for _, r := range some() {
		for _, index := range numbers() {
			for _, code := range numbers() {
				for _, stack := range []bool{false, true} {
					checkPair(t, r, index, code, stack)
				}
			}
		}
	}
}

func checkPair(t *testing.T, r api.Regs, index, code int, stack bool) {
	if v := regs.Pair(r, index, code, stack); v != thePair(r, index, code, stack) {
		t.Fatalf("Pair(%+v, %d, %d, %t) = %04x", r, index, code, stack, v)
	}
	for _, v := range []uint16{0x0000, 0x0001, 0xb6c7, 0xff00, 0xffff} {
		got := regs.PutPair(r, index, code, stack, v)
		if got != withPair(r, index, code, stack, v) {
			t.Fatalf("PutPair(%+v, %d, %d, %t, %04x) = %+v", r, index, code, stack, v, got)
		}
		if back := regs.Pair(got, index, code, stack); back != v {
			t.Fatalf("Pair(%d, %d, %t) of what was put, %04x, is %04x", index, code, stack, v, back)
		}
	}
}

// P8.3
func TestEachByteAndWordThatIsPutIsThere(t *testing.T) {
	for v := range 65536 {
		for index := range 3 {
			if r := regs.PutPair(full(), index, 2, false, uint16(v)); regs.Pair(r, index, 2, true) != uint16(v) {
				t.Fatalf("index %d: %04x is put as %+v", index, v, r)
			}
			if r := regs.Put(full(), index, 4+v/256%2, byte(v)); regs.Get(r, index, 4+v/256%2) != byte(v) {
				t.Fatalf("index %d: byte %02x is put as %+v", index, byte(v), r)
			}
		}
	}
}

// P8.1: the chapter's examples, and each code with its flag alone and with all others.
func TestCond(t *testing.T) {
	for code, flag := range []byte{64, 64, 1, 1, 4, 4, 128, 128} {
		for f := range 256 {
			is := byte(f)/flag%2 == 1
			want := is == (code%2 == 1)
			for _, n := range []int{code, code - 8, code + 8, code - 800, code + 1<<40, math.MinInt + code, math.MaxInt - 7 + code} {
				if regs.Cond(byte(f), n) != want {
					t.Fatalf("Cond(%02x, %d) = %t", f, n, !want)
				}
			}
		}
	}
	if !regs.Cond(64, 1) || regs.Cond(64, 0) {
		t.Error("Z of 64 is not told")
	}
}

// P8.2
func TestSwap(t *testing.T) {
	zero := full()
	zero.A, zero.F, zero.AF2 = 0xcb, 0xa9, 0x1122
	one := full()
	one.B, one.C, one.BC2 = 0x87, 0x65, 0x3344
	one.D, one.E, one.DE2 = 0x43, 0x21, 0x5566
	one.H, one.L, one.HL2 = 0x02, 0x46, 0x7788
	two := full()
	two.D, two.E, two.H, two.L = 0x77, 0x88, 0x55, 0x66
	want := []api.Regs{zero, one, two}
	for _, what := range numbers() {
		if r := regs.Swap(full(), what); r != want[modulo(what, 3)] {
			t.Errorf("Swap(%d) = %+v, want %+v", what, r, want[modulo(what, 3)])
		}
	}
}

// P8.3
func TestSwapTwiceIsNothing(t *testing.T) {
	for _, r := range some() {
		for _, what := range numbers() {
			if back := regs.Swap(regs.Swap(r, what), what); back != r {
				t.Errorf("Swap(%d) twice makes %+v of %+v", what, back, r)
			}
		}
	}
}

// P8.2
func TestRefresh(t *testing.T) {
	for _, r := range some() {
		for v := range 256 {
			r.R = byte(v)
			want := r
			want.R = byte(v/128*128 + (v+1)%128)
			if got := regs.Refresh(r); got != want {
				t.Errorf("Refresh(%+v) = %+v", r, got)
			}
		}
	}
}

// P8.2
func TestText(t *testing.T) {
	odd := regs.Reset()
	odd.IM = 3
	below := full()
	below.IM = -1
	for _, x := range []struct {
		r    api.Regs
		want string
	}{
		{regs.Reset(), "PC=0000 SP=ffff AF=ffff BC=0000 DE=0000 HL=0000 IX=0000 IY=0000"},
		{api.Regs{}, "PC=0000 SP=0000 AF=0000 BC=0000 DE=0000 HL=0000 IX=0000 IY=0000"},
		{full(), "PC=def0 SP=9abc AF=1122 BC=3344 DE=5566 HL=7788 IX=1234 IY=5678"},
		{ones(), "PC=ffff SP=ffff AF=ffff BC=ffff DE=ffff HL=ffff IX=ffff IY=ffff"},
		{odd, ""},
		{below, ""},
	} {
		if s := regs.Text(x.r); s != x.want {
			t.Errorf("Text = %q, want %q", s, x.want)
		}
	}
}

// P8.2: each word's digits, small ones.
func TestTextOfAllWords(t *testing.T) {
	const digits = "0123456789abcdef"
	for v := range 65536 {
		four := string([]byte{digits[v/4096], digits[v/256%16], digits[v/16%16], digits[v%16]})
		want := "PC=" + four + " SP=0000 AF=0000 BC=0000 DE=0000 HL=0000 IX=0000 IY=" + four
		if s := regs.Text(api.Regs{PC: uint16(v), IY: uint16(v)}); s != want {
			t.Fatalf("Text = %q, want %q", s, want)
		}
	}
}
