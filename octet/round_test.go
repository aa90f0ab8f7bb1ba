package octet_test

import (
	"bytes"
	"math"
	"testing"

	"pendulum/api"
	"pendulum/octet"
)

// sample goes over numbers of every length, near the powers of two and between.
func sample(visit func(x uint64)) {
	for x := range uint64(70000) {
		visit(x)
	}
	for shift := range 64 {
		for near := range uint64(5) {
			visit(1<<shift + near - 2)
		}
	}
	for x := uint64(1); x < math.MaxUint64/3; x += x/7 + 1 {
		visit(3*x + 1)
	}
}

// P1.3
func TestNumbersAreReadAgain(t *testing.T) {
	sample(func(x uint64) {
		b := octet.Number(nil, x)
		r := octet.New(b)
		if got := r.Number(); got != x || r.End() != api.OK {
			t.Fatalf("%d is read as %d, error %d", x, got, r.Err())
		}
		s := int64(x)
		b = octet.Signed(nil, s)
		r = octet.New(b)
		if got := r.Signed(); got != s || r.End() != api.OK {
			t.Fatalf("%d is read as %d, error %d", s, got, r.Err())
		}
	})
}

// P1.3
func TestManyThingsAreReadAgain(t *testing.T) {
	b := octet.Number(nil, 65536)
	b = octet.Signed(b, -3)
	b, _ = octet.Block(b, nil)
	b, _ = octet.Block(b, []byte("ab"))
	b = octet.Number(b, 247)
	b = octet.Signed(b, 124)
	r := octet.New(b)
	if n, s := r.Number(), r.Signed(); n != 65536 || s != -3 {
		t.Error(n, s)
	}
	if one, two := r.Block(), r.Block(); len(one) != 0 || string(two) != "ab" {
		t.Errorf("%q, %q", one, two)
	}
	if n, s := r.Count(247), r.Signed(); n != 247 || s != 124 || r.End() != api.OK {
		t.Error(n, s, r.Err())
	}
}

// P1.3
func TestNoOtherBytesAreReadAsANumber(t *testing.T) {
	check := func(b []byte) {
		r := octet.New(b)
		x := r.Number()
		if r.End() == api.OK && !bytes.Equal(octet.Number(nil, x), b) {
			t.Fatalf("% x is read as %d", b, x)
		}
	}
	for i := range 1 << 16 {
		high, low := byte(i>>8), byte(i)
		check([]byte{low})
		check([]byte{high, low})
		for _, count := range []byte{0xf8, 0xf9, 0xfa} {
			check([]byte{count, high, low})
		}
		check([]byte{0xfa, high, low, 0})
		check([]byte{0xfa, high, 0, low})
		check([]byte{0xff, high, 0, 0, 0, 0, 0, 0, low})
	}
}

// P1.3
func TestNoOtherBytesAreReadAsABlock(t *testing.T) {
	for i := range 1 << 16 {
		b := []byte{byte(i >> 8), byte(i), 'a', 'b'}
		for n := range len(b) + 1 {
			r := octet.New(b[:n])
			p := r.Block()
			if r.End() != api.OK {
				continue
			}
			if again, err := octet.Block(nil, p); err != api.OK || !bytes.Equal(again, b[:n]) {
				t.Fatalf("% x is read as % x", b[:n], p)
			}
		}
	}
}

// P1.3: whatever bytes are read, in whatever way, is put so again, or one error.
func FuzzReader(f *testing.F) {
	f.Add([]byte{0xfa, 0, 0, 1, 5, 2, 'a', 'b'}, []byte{0, 1, 2})
	f.Add([]byte{0xf8, 0xf7}, []byte{0})
	f.Add([]byte{5, 1}, []byte{3})
	f.Fuzz(func(t *testing.T, b, ways []byte) {
		r := octet.New(b)
		var again []byte
		for _, way := range ways {
			again = readAndPut(r, way, again)
			if r.Err() != api.OK {
				break
			}
			if !bytes.Equal(again, b[:len(b)-r.Left()]) {
				t.Fatalf("% x is put as % x", b, again)
			}
		}
		if r.End() == api.OK && !bytes.Equal(again, b) {
			t.Fatalf("% x is put as % x", b, again)
		}
	})
}

func readAndPut(r *octet.Reader, way byte, b []byte) []byte {
	switch way % 4 {
	case 0:
		return octet.Number(b, r.Number())
	case 1:
		return octet.Signed(b, r.Signed())
	case 2:
		b, _ = octet.Block(b, r.Block())
		return b
	default:
		return octet.Number(b, uint64(r.Count(math.MaxInt)))
	}
}
