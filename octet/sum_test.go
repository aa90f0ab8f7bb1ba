package octet_test

import (
	"bytes"
	"sync"
	"testing"

	"pendulum/octet"
)

// bitwiseSum is the sum as the chapter's words tell it, without a table.
func bitwiseSum(b []byte) uint16 {
	sum := uint32(0xffff)
	for _, c := range b {
		sum ^= uint32(c) << 8
		for range 8 {
			sum *= 2
			if sum > 0xffff {
				sum = sum&0xffff ^ 0x1021
			}
		}
	}
	return uint16(sum)
}

// P1.1
func TestSum(t *testing.T) {
	for _, x := range []struct {
		b    string
		want uint16
	}{{"", 0xffff}, {"123456789", 0x29b1}, {"A", 0xb915}, {"\x00", 0xe1f0}} {
		if got := octet.Sum([]byte(x.b)); got != x.want {
			t.Errorf("Sum(%q) = %04x, want %04x", x.b, got, x.want)
		}
	}
	if octet.Sum() != 0xffff || octet.Sum(nil, []byte{}, nil) != 0xffff {
		t.Error("the sum of no bytes is not ffff")
	}
}

// P1.1
func TestSumIsThatOfTheWords(t *testing.T) {
	for i := range 1 << 16 {
		b := []byte{byte(i >> 8), byte(i), 0x5a}
		if got, want := octet.Sum(b), bitwiseSum(b); got != want {
			t.Fatalf("Sum(% x) = %04x, want %04x", b, got, want)
		}
	}
}

// P1.1
func TestSumOfPiecesIsThatOfTheWhole(t *testing.T) {
	whole := []byte("123456789")
	for i := range len(whole) + 1 {
		for j := i; j <= len(whole); j++ {
			if got := octet.Sum(whole[:i], whole[i:j], nil, whole[j:]); got != 0x29b1 {
				t.Errorf("cut at %d and %d: %04x", i, j, got)
			}
		}
	}
	if string(whole) != "123456789" {
		t.Error("Sum changed what was handed in")
	}
}

// P1.3
func TestSumTellsBytesThatDifferWithin16Bits(t *testing.T) {
	plain := []byte("pendulum")
	sum := octet.Sum(plain)
	other := make([]byte, len(plain))
	for first := 0; first+16 <= 8*len(plain); first++ {
		at, shift := first/8, 8-first%8
		for difference := uint32(1); difference < 1<<16; difference++ {
			copy(other, plain)
			turned := difference << shift
			other[at] ^= byte(turned >> 16)
			other[at+1] ^= byte(turned >> 8)
			if shift != 8 {
				other[at+2] ^= byte(turned)
			}
			if octet.Sum(other) == sum {
				t.Fatalf("% x and % x have one sum", plain, other)
			}
		}
	}
}

// P1.1: the words of the table are those that single bytes add to a sum.
func TestTableWordsAreThoseOfSum(t *testing.T) {
	for i := range 256 {
		high := byte(i)
		if got, want := octet.TableWord(high), octet.Sum([]byte{^high})^0xff00; got != want {
			t.Errorf("TableWord(%02x) = %04x, want %04x", high, got, want)
		}
	}
}

// Rule 7: Sum keeps nothing, so that many may ask at once.
func TestSumInManyGoroutines(t *testing.T) {
	b := bytes.Repeat([]byte("123456789"), 50)
	want := bitwiseSum(b)
	got := make([]uint16, 32)
	var all sync.WaitGroup
	for i := range got {
		all.Go(func() { got[i] = octet.Sum(b) })
	}
	all.Wait()
	for i, sum := range got {
		if sum != want {
			t.Errorf("goroutine %d: %04x, want %04x", i, sum, want)
		}
	}
}
