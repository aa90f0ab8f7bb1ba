package wide_test

import (
	"testing"

	"pendulum/alu"
	"pendulum/api"
	"pendulum/wide"
)

// flag answers a flag that is set or not.
func flag(is bool, which byte) byte {
	if is {
		return which
	}
	return 0
}

// copied answers the flags that stand in which as f has them, one by one.
func copied(f byte, which ...byte) byte {
	g := byte(0)
	for _, one := range which {
		g |= flag(f&one != 0, one)
	}
	return g
}

// signed is a word as a number of -32768 to 32767.
func signed(n int) int {
	if n > 32767 {
		return n - 65536
	}
	return n
}

// modulo is the word of a whole number, below 0 too.
func modulo(n int) int {
	return (n%65536 + 65536) % 65536
}

// counted is what the chapter says of a sum (sign 1) and of a difference (sign -1), in whole numbers.
func counted(x, y uint16, c, sign int) (r uint16, g byte) {
	a, b := int(x), int(y)
	whole := a + sign*(b+c)
	low := a%4096 + sign*(b%4096+c)
	number := signed(a) + sign*(signed(b)+c)
	n := modulo(whole)
	return uint16(n), copied(byte(n/256), api.FlagS, api.FlagY, api.FlagX) |
		flag(n == 0, api.FlagZ) |
		flag(whole != n, api.FlagC) |
		flag(low < 0 || low > 4095, api.FlagH) |
		flag(number != signed(n), api.FlagP) |
		flag(sign < 0, api.FlagN)
}

func added(a, b uint16, f byte) (r uint16, g byte) {
	r, g = counted(a, b, 0, 1)
	return r, copied(f, api.FlagS, api.FlagZ, api.FlagP) | copied(g, api.FlagH, api.FlagC, api.FlagY, api.FlagX)
}

func addedWithCarry(a, b uint16, f byte) (r uint16, g byte) {
	return counted(a, b, int(f)%2, 1)
}

func subtracted(a, b uint16, f byte) (r uint16, g byte) {
	return counted(a, b, int(f)%2, -1)
}

// edges are words at which a flag changes, and some between.
func edges() []uint16 {
	return []uint16{
		0, 1, 2, 0x7f, 0x80, 0xff, 0x100, 0x7ff, 0x800, 0xffe, 0xfff, 0x1000, 0x1001, 0x1234,
		0x2800, 0x7ffe, 0x7fff, 0x8000, 0x8001, 0xd7ff, 0xefff, 0xf000, 0xfffe, 0xffff,
	}
}

// eachPair calls f with each word and each edge, in both orders, till it answers false.
func eachPair(f func(a, b uint16) bool) {
	for a := range 65536 {
		for _, b := range edges() {
			if !f(uint16(a), b) || !f(b, uint16(a)) {
				return
			}
		}
	}
}

type call struct {
	name string
	call func(a, b uint16, f byte) (r uint16, g byte)
	want func(a, b uint16, f byte) (r uint16, g byte)
}

func calls() []call {
	return []call{
		{"Add", wide.Add, added},
		{"Adc", wide.Adc, addedWithCarry},
		{"Sbc", wide.Sbc, subtracted},
	}
}

// P7.1: the chapter's examples, and the edges of each flag.
func TestAddAdcAndSbc(t *testing.T) {
	add, adc, sbc := calls()[0], calls()[1], calls()[2]
	for _, x := range []struct {
		of   call
		a, b uint16
		f    byte
		r    uint16
		g    byte
	}{
		{add, 0x0fff, 0x0001, 0x00, 0x1000, 0x10},
		{add, 0xffff, 0x0001, 0xc5, 0x0000, 0xd5},
		{add, 0x0000, 0x0000, 0x00, 0x0000, 0x00},
		{add, 0x0000, 0x0000, 0xff, 0x0000, 0xc4},
		{add, 0x1000, 0x0000, 0x01, 0x1000, 0x00},
		{add, 0x0800, 0x0800, 0x3b, 0x1000, 0x10},
		{add, 0x0ffe, 0x0001, 0x00, 0x0fff, 0x08},
		{add, 0x8000, 0x8000, 0x00, 0x0000, 0x01},
		{add, 0x7fff, 0x0001, 0x00, 0x8000, 0x10},
		{add, 0x2800, 0x0000, 0x00, 0x2800, 0x28},
		{add, 0x0028, 0x0000, 0x00, 0x0028, 0x00},
		{adc, 0x7fff, 0x0000, 0x01, 0x8000, 0x94},
		{adc, 0x0000, 0x0000, 0x00, 0x0000, 0x40},
		{adc, 0x0000, 0x0000, 0xfe, 0x0000, 0x40},
		{adc, 0x0000, 0x0000, 0xff, 0x0001, 0x00},
		{adc, 0xffff, 0x0000, 0x01, 0x0000, 0x51},
		{adc, 0xffff, 0xffff, 0x01, 0xffff, 0xb9},
		{adc, 0x0000, 0xffff, 0x01, 0x0000, 0x51},
		{adc, 0x0fff, 0x0fff, 0x01, 0x1fff, 0x18},
		{adc, 0x8000, 0x8000, 0x00, 0x0000, 0x45},
		{adc, 0x8000, 0x7fff, 0x00, 0xffff, 0xa8},
		{adc, 0x8000, 0xffff, 0x00, 0x7fff, 0x2d},
		{adc, 0x00ff, 0x0000, 0x00, 0x00ff, 0x00},
		{sbc, 0x0000, 0x0001, 0x00, 0xffff, 0xbb},
		{sbc, 0x0005, 0x0004, 0x01, 0x0000, 0x42},
		{sbc, 0x0000, 0x0000, 0x00, 0x0000, 0x42},
		{sbc, 0x0000, 0x0000, 0xfe, 0x0000, 0x42},
		{sbc, 0x0000, 0x0000, 0x01, 0xffff, 0xbb},
		{sbc, 0x0000, 0xffff, 0x01, 0x0000, 0x53},
		{sbc, 0xffff, 0xffff, 0x01, 0xffff, 0xbb},
		{sbc, 0x8000, 0x0001, 0x00, 0x7fff, 0x3e},
		{sbc, 0x8000, 0x0000, 0x01, 0x7fff, 0x3e},
		{sbc, 0x7fff, 0xffff, 0x00, 0x8000, 0x87},
		{sbc, 0x0000, 0x8000, 0x00, 0x8000, 0x87},
		{sbc, 0x1000, 0x0001, 0x00, 0x0fff, 0x1a},
		{sbc, 0x1fff, 0x0fff, 0x01, 0x0fff, 0x1a},
		{sbc, 0x0100, 0x0001, 0x00, 0x00ff, 0x02},
	} {
		if r, g := x.of.call(x.a, x.b, x.f); r != x.r || g != x.g {
			t.Errorf("%s(%04x, %04x, %02x) = %04x, %02x, want %04x, %02x", x.of.name, x.a, x.b, x.f, r, g, x.r, x.g)
		}
	}
}

// P7.1
func TestAddAdcAndSbcOfAllWords(t *testing.T) {
	for _, x := range calls() {
		eachPair(func(a, b uint16) bool {
			for _, f := range []byte{0x00, 0x01, 0xfe, 0xff} {
				r, g := x.call(a, b, f)
				if n, h := x.want(a, b, f); r != n || g != h {
					t.Errorf("%s(%04x, %04x, %02x) = %04x, %02x, want %04x, %02x", x.name, a, b, f, r, g, n, h)
				}
			}
			return !t.Failed()
		})
	}
}

// P7.1: what stays of the flags and what does not, for all of them.
func TestAddAdcAndSbcWithAllFlags(t *testing.T) {
	for _, x := range calls() {
		for f := range 256 {
			for _, a := range edges() {
				for _, b := range edges() {
					r, g := x.call(a, b, byte(f))
					if n, h := x.want(a, b, byte(f)); r != n || g != h {
						t.Fatalf("%s(%04x, %04x, %02x) = %04x, %02x, want %04x, %02x", x.name, a, b, f, r, g, n, h)
					}
				}
			}
		}
	}
}

// P7.1
func TestPairAndSplit(t *testing.T) {
	for _, x := range []struct {
		high, low byte
		r         uint16
	}{
		{0, 0, 0},
		{0x12, 0x34, 0x1234},
		{0, 0xff, 0x00ff},
		{0xff, 0, 0xff00},
		{0xff, 0xff, 0xffff},
		{0x80, 0x01, 0x8001},
	} {
		if r := wide.Pair(x.high, x.low); r != x.r {
			t.Errorf("Pair(%02x, %02x) = %04x, want %04x", x.high, x.low, r, x.r)
		}
		if high, low := wide.Split(x.r); high != x.high || low != x.low {
			t.Errorf("Split(%04x) = %02x, %02x, want %02x, %02x", x.r, high, low, x.high, x.low)
		}
	}
	for r := range 65536 {
		high, low := wide.Split(uint16(r))
		if int(high) != r/256 || int(low) != r%256 || wide.Pair(high, low) != uint16(r) {
			t.Fatalf("Split(%04x) = %02x, %02x, and back %04x", r, high, low, wide.Pair(high, low))
		}
	}
}

// P7.1
func TestSigned(t *testing.T) {
	for _, x := range []struct {
		v    byte
		want int
	}{
		{0, 0}, {1, 1}, {0x7f, 127}, {0x80, -128}, {0x81, -127}, {0xfe, -2}, {0xff, -1},
	} {
		if n := wide.Signed(x.v); n != x.want {
			t.Errorf("Signed(%02x) = %d, want %d", x.v, n, x.want)
		}
	}
	for v := range 256 {
		want := v
		if v > 127 {
			want = v - 256
		}
		if n := wide.Signed(byte(v)); n != want {
			t.Errorf("Signed(%02x) = %d, want %d", v, n, want)
		}
	}
}

// P7.1
func TestPlus(t *testing.T) {
	for _, x := range []struct {
		r    uint16
		d    byte
		want uint16
	}{
		{0x0100, 0xfe, 0x00fe},
		{0x0000, 0x00, 0x0000},
		{0x0000, 0xff, 0xffff},
		{0x0000, 0x80, 0xff80},
		{0x007f, 0x80, 0xffff},
		{0x0080, 0x80, 0x0000},
		{0xffff, 0x01, 0x0000},
		{0xffff, 0x7f, 0x007e},
		{0x8000, 0x7f, 0x807f},
		{0x8000, 0x80, 0x7f80},
	} {
		if r := wide.Plus(x.r, x.d); r != x.want {
			t.Errorf("Plus(%04x, %02x) = %04x, want %04x", x.r, x.d, r, x.want)
		}
	}
	for r := range 65536 {
		for d := range 256 {
			n := r + d
			if d > 127 {
				n -= 256
			}
			if s := wide.Plus(uint16(r), byte(d)); int(s) != modulo(n) {
				t.Fatalf("Plus(%04x, %02x) = %04x, want %04x", r, d, s, modulo(n))
			}
		}
	}
}

// byBytes makes a word of alu's answers for its low, then its high byte: Z alone is of both.
func byBytes(a, b uint16, f byte, of func(a, b byte, carry bool) (r, g byte)) (r uint16, g byte) {
	low, g := of(byte(a%256), byte(b%256), f&api.FlagC != 0)
	high, g := of(byte(a/256), byte(b/256), g&api.FlagC != 0)
	r = uint16(high)*256 + uint16(low)
	return r, g&^api.FlagZ | flag(r == 0, api.FlagZ)
}

// P7.3
func TestAdcAndSbcAreByBytes(t *testing.T) {
	eachPair(func(a, b uint16) bool {
		for f := range byte(2) {
			r, g := wide.Adc(a, b, f)
			if n, h := byBytes(a, b, f, alu.Add); r != n || g != h {
				t.Errorf("Adc(%04x, %04x, %02x) = %04x, %02x, by bytes %04x, %02x", a, b, f, r, g, n, h)
			}
			r, g = wide.Sbc(a, b, f)
			if n, h := byBytes(a, b, f, alu.Sub); r != n || g != h {
				t.Errorf("Sbc(%04x, %04x, %02x) = %04x, %02x, by bytes %04x, %02x", a, b, f, r, g, n, h)
			}
		}
		return !t.Failed()
	})
}

// P7.3: what goes out of the sum goes out of the difference too.
func TestSbcUndoesAdc(t *testing.T) {
	const both = api.FlagC | api.FlagH
	eachPair(func(a, b uint16) bool {
		for f := range byte(2) {
			r, g := wide.Adc(a, b, f)
			back, h := wide.Sbc(r, b, f)
			if back != a || g&both != h&both {
				t.Errorf("%04x and %04x and %d: %04x, %02x, and back %04x, %02x", a, b, f, r, g, back, h)
			}
		}
		return !t.Failed()
	})
}
