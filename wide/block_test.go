package wide_test

import (
	"testing"

	"pendulum/api"
	"pendulum/wide"
)

// bit answers whether the bit n of a whole number (not below 0) is 1.
func bit(n, of int) bool {
	for range n {
		of /= 2
	}
	return of%2 == 1
}

// even tells whether an even number of the eight bits is set.
func even(of int) bool {
	ones := 0
	for n := range 8 {
		if bit(n, of) {
			ones++
		}
	}
	return ones%2 == 0
}

// odd is Y and X of what the chapter calls n.
func odd(n int) byte {
	n = (n%256 + 256) % 256
	return flag(bit(1, n), api.FlagY) | flag(bit(3, n), api.FlagX)
}

// moved is what the chapter says of Move, in whole numbers.
func moved(a, v byte, left uint16, f byte) byte {
	return copied(f, api.FlagS, api.FlagZ, api.FlagC) | flag(left != 0, api.FlagP) | odd(int(a)+int(v))
}

// found is what the chapter says of Find, in whole numbers.
func found(a, v byte, left uint16, f byte) byte {
	n := int(a) - int(v)
	half := int(a)%16 < int(v)%16
	g := api.FlagN | flag(n == 0, api.FlagZ) | flag(half, api.FlagH) | copied(byte(n), api.FlagS)
	if half {
		n--
	}
	return g | odd(n) | flag(left != 0, api.FlagP) | copied(f, api.FlagC)
}

// ported is what the chapter says of Port, in whole numbers.
func ported(v, b, to byte) byte {
	k := int(v) + int(to)
	low, other := k%8, int(b)
	differ := 0
	for n := range 8 {
		if bit(n, low) != bit(n, other) {
			differ++
		}
	}
	return copied(b, api.FlagS, api.FlagY, api.FlagX) | flag(b == 0, api.FlagZ) |
		flag(bit(7, int(v)), api.FlagN) |
		flag(k > 255, api.FlagH) | flag(k > 255, api.FlagC) |
		flag(differ%2 == 0, api.FlagP)
}

// eachBytes calls f with each two bytes, till it answers false.
func eachBytes(f func(a, b byte) bool) {
	for a := range 256 {
		for b := range 256 {
			if !f(byte(a), byte(b)) {
				return
			}
		}
	}
}

// P7.2: the chapter's example, and the edges of n and of the count.
func TestMove(t *testing.T) {
	for _, x := range []struct {
		a, v byte
		left uint16
		f    byte
		want byte
	}{
		{0x01, 0x01, 5, 0x00, 0x24},
		{0x01, 0x01, 0, 0x00, 0x20},
		{0x00, 0x00, 0, 0x00, 0x00},
		{0x00, 0x00, 0, 0xff, 0xc1},
		{0x00, 0x00, 1, 0xff, 0xc5},
		{0x00, 0x00, 0x0100, 0x00, 0x04},
		{0x00, 0x00, 0x8000, 0x00, 0x04},
		{0x00, 0x00, 0xffff, 0x3a, 0x04},
		{0x08, 0x00, 0, 0x00, 0x08},
		{0x07, 0x01, 0, 0x00, 0x08},
		{0x20, 0x00, 0, 0x00, 0x00},
		{0xff, 0x0b, 0, 0x00, 0x28},
		{0xff, 0x01, 0, 0x00, 0x00},
		{0xff, 0xff, 0, 0x00, 0x28},
	} {
		if g := wide.Move(x.a, x.v, x.left, x.f); g != x.want {
			t.Errorf("Move(%02x, %02x, %d, %02x) = %02x, want %02x", x.a, x.v, x.left, x.f, g, x.want)
		}
	}
}

// P7.2: H of a less v takes 1 more of n, and C is never that of a less v.
func TestFind(t *testing.T) {
	for _, x := range []struct {
		a, v byte
		left uint16
		f    byte
		want byte
	}{
		{0x05, 0x05, 0, 0x01, 0x43},
		{0x05, 0x05, 0, 0xfe, 0x42},
		{0x05, 0x05, 7, 0x00, 0x46},
		{0x05, 0x05, 0x0100, 0x00, 0x46},
		{0x05, 0x05, 0xffff, 0xff, 0x47},
		{0x05, 0x03, 0, 0x00, 0x22},
		{0x00, 0x01, 0, 0x00, 0xba},
		{0x00, 0x01, 1, 0x01, 0xbf},
		{0x10, 0x01, 0, 0x00, 0x3a},
		{0x10, 0x04, 0, 0x00, 0x3a},
		{0x10, 0x06, 0, 0x00, 0x1a},
		{0x10, 0x08, 0, 0x00, 0x32},
		{0x13, 0x02, 0, 0x00, 0x02},
		{0x00, 0x80, 0, 0x00, 0x82},
		{0x80, 0x01, 0, 0x00, 0x3a},
		{0x20, 0x00, 0, 0x00, 0x02},
	} {
		if g := wide.Find(x.a, x.v, x.left, x.f); g != x.want {
			t.Errorf("Find(%02x, %02x, %d, %02x) = %02x, want %02x", x.a, x.v, x.left, x.f, g, x.want)
		}
	}
}

// P7.2
func TestPort(t *testing.T) {
	for _, x := range []struct{ v, b, to, want byte }{
		{0x00, 0x00, 0x00, 0x44},
		{0x00, 0x01, 0x00, 0x00},
		{0x01, 0x01, 0x00, 0x04},
		{0x08, 0x00, 0x00, 0x44},
		{0x07, 0x00, 0x00, 0x40},
		{0x7f, 0x00, 0x00, 0x40},
		{0x80, 0x00, 0x00, 0x46},
		{0x80, 0x00, 0x7f, 0x42},
		{0x80, 0x00, 0x80, 0x57},
		{0xff, 0x00, 0x00, 0x42},
		{0xff, 0x00, 0x01, 0x57},
		{0x01, 0x00, 0xff, 0x55},
		{0xff, 0x00, 0xff, 0x57},
		{0x00, 0xff, 0x00, 0xac},
		{0x00, 0x28, 0x00, 0x2c},
		{0x00, 0x80, 0x00, 0x80},
		{0x00, 0xd7, 0x00, 0x84},
	} {
		if g := wide.Port(x.v, x.b, x.to); g != x.want {
			t.Errorf("Port(%02x, %02x, %02x) = %02x, want %02x", x.v, x.b, x.to, g, x.want)
		}
	}
}

// P7.2
func TestMoveAndFindOfAllBytes(t *testing.T) {
	for _, left := range []uint16{0, 1, 0x80, 0xff, 0x100, 0x8000, 0xff00, 0xffff} {
		for _, f := range []byte{0x00, 0x01, 0x2a, 0xd5, 0xfe, 0xff} {
			eachBytes(func(a, v byte) bool {
				if g, want := wide.Move(a, v, left, f), moved(a, v, left, f); g != want {
					t.Errorf("Move(%02x, %02x, %d, %02x) = %02x, want %02x", a, v, left, f, g, want)
				}
				if g, want := wide.Find(a, v, left, f), found(a, v, left, f); g != want {
					t.Errorf("Find(%02x, %02x, %d, %02x) = %02x, want %02x", a, v, left, f, g, want)
				}
				return !t.Failed()
			})
		}
	}
}

// P7.2: each flag ahead, and each count.
func TestMoveAndFindOfAllFlagsAndCounts(t *testing.T) {
	for f := range 256 {
		for _, a := range []byte{0x00, 0x0f, 0x80, 0xff} {
			if g, want := wide.Move(a, 3, 1, byte(f)), moved(a, 3, 1, byte(f)); g != want {
				t.Errorf("Move(%02x, 3, 1, %02x) = %02x, want %02x", a, f, g, want)
			}
			if g, want := wide.Find(a, 3, 1, byte(f)), found(a, 3, 1, byte(f)); g != want {
				t.Errorf("Find(%02x, 3, 1, %02x) = %02x, want %02x", a, f, g, want)
			}
		}
	}
	for left := range 65536 {
		is := left != 0
		if g := wide.Move(1, 2, uint16(left), 0); g&api.FlagP != 0 != is {
			t.Fatalf("Move(1, 2, %d, 0) = %02x", left, g)
		}
		if g := wide.Find(1, 2, uint16(left), 0); g&api.FlagP != 0 != is {
			t.Fatalf("Find(1, 2, %d, 0) = %02x", left, g)
		}
	}
}

// P7.2
func TestPortOfAllBytes(t *testing.T) {
	for to := range 256 {
		eachBytes(func(v, b byte) bool {
			if to > 1 && to < 255 && b%17 != 0 {
				return true
			}
			if g, want := wide.Port(v, b, byte(to)), ported(v, b, byte(to)); g != want {
				t.Errorf("Port(%02x, %02x, %02x) = %02x, want %02x", v, b, to, g, want)
			}
			return !t.Failed()
		})
	}
}
