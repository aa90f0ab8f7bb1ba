package tstate_test

import (
	"bytes"
	"math"
	"testing"

	"pendulum/api"
	"pendulum/octet"
	"pendulum/tstate"
)

var classicBytes = []byte{0xf9, 0x37, 1, 228, 63, 192, 14, 32, 36}

// P2.2
func TestBytesAreTheSevenNumbers(t *testing.T) {
	for _, x := range []struct {
		s    api.Screen
		want []byte
	}{
		{classic, classicBytes},
		{small, []byte{10, 16, 1, 8, 3, 2, 5}},
		{shortest, []byte{1, 8, 0, 0, 1, 0, 8}},
		{longest, []byte{0xf9, 0x90, 1, 0xf9, 0x90, 1, 208, 192, 0xf9, 0x10, 1, 32, 64}},
	} {
		if b, e := tstate.Bytes(x.s); e != api.OK || !bytes.Equal(b, x.want) {
			t.Errorf("Bytes(%+v) = % x, error %d, want % x", x.s, b, e, x.want)
		}
	}
}

// P2.2
func TestReadOfBytesIsTheScreen(t *testing.T) {
	for _, s := range mayBe {
		b, _ := tstate.Bytes(s)
		before := bytes.Clone(b)
		if got, e := tstate.Read(b); e != api.OK || got != s {
			t.Errorf("Read(% x) = %+v, error %d, want %+v", b, got, e, s)
		}
		if !bytes.Equal(b, before) {
			t.Errorf("Read changed % x to % x", before, b)
		}
	}
}

// rawBytes puts the numbers of any screen, of one that may not be, too.
func rawBytes(s api.Screen) []byte {
	var b []byte
	for _, p := range numbersOf(&s) {
		b = octet.Number(b, uint64(*p))
	}
	return b
}

// P2.2
func TestReadRefusesWhatIsNoScreensBytes(t *testing.T) {
	refused := func(name string, b []byte) {
		if s, e := tstate.Read(b); e != api.ErrBad || s != (api.Screen{}) {
			t.Errorf("%s: Read(% x) = %+v, error %d", name, b, s, e)
		}
	}
	for n := range classicBytes {
		refused("too few bytes", classicBytes[:n])
	}
	refused("nothing", nil)
	refused("a byte more", append(bytes.Clone(classicBytes), 0))
	refused("two screens", append(bytes.Clone(classicBytes), classicBytes...))
	refused("a number in other bytes", []byte{0xf8, 10, 16, 1, 8, 3, 2, 5})
	refused("a number with a 0 above", []byte{0xfa, 0x37, 1, 0, 228, 63, 192, 14, 32, 36})
	for _, x := range mayNotBe {
		refused(x.name, rawBytes(x.s))
	}
	for i := range numbersOf(&small) {
		for _, more := range []uint64{1 << 32, 1 << 40, 1 << 63} {
			refused("a number beyond all", bytesWith(i, uint64(*numbersOf(&small)[i])+more))
		}
		refused("the greatest number", bytesWith(i, math.MaxUint64))
	}
}

// bytesWith puts the numbers of the small screen, that of one place changed.
func bytesWith(place int, n uint64) []byte {
	var b []byte
	for i, p := range numbersOf(&small) {
		if i == place {
			b = octet.Number(b, n)
		} else {
			b = octet.Number(b, uint64(*p))
		}
	}
	return b
}

// P2.2: whatever is read is put so again.
func TestNoOtherBytesAreReadAsAScreen(t *testing.T) {
	for at := range classicBytes {
		for c := range 256 {
			b := bytes.Clone(classicBytes)
			b[at] = byte(c)
			checkRead(t, b)
		}
	}
}

func FuzzRead(f *testing.F) {
	f.Add(classicBytes)
	f.Add([]byte{1, 8, 0, 0, 1, 0, 8})
	f.Fuzz(checkRead)
}

func checkRead(t *testing.T, b []byte) {
	s, e := tstate.Read(b)
	if e != api.OK {
		if e != api.ErrBad || s != (api.Screen{}) {
			t.Fatalf("Read(% x) = %+v, error %d", b, s, e)
		}
		return
	}
	if again, e := tstate.Bytes(s); e != api.OK || !bytes.Equal(again, b) {
		t.Fatalf("% x is put again as % x, error %d", b, again, e)
	}
}

// P2.2, rule 3
func TestBytesAreNewMemory(t *testing.T) {
	one, _ := tstate.Bytes(classic)
	clear(one[:cap(one)])
	if two, _ := tstate.Bytes(classic); !bytes.Equal(two, classicBytes) {
		t.Errorf("an answer is another's memory: % x", two)
	}
}
