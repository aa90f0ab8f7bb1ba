package keys_test

import (
	"bytes"
	"math"
	"slices"
	"testing"

	"pendulum/api"
	"pendulum/keys"
	"pendulum/octet"
)

var givenBytes = []byte{3, 10, 1, 2, 1, 20, 1, 7, 1, 30, 1, 2, 0}

// P17.2
func TestBytesAreTheNumbersOfEach(t *testing.T) {
	for _, x := range []struct {
		l    []api.Touch
		want []byte
	}{
		{nil, []byte{0}},
		{[]api.Touch{}, []byte{0}},
		{given, givenBytes},
		{[]api.Touch{ear(0, 0)}, []byte{1, 0, 2, 0, 1}},
		{[]api.Touch{{Time: 248, What: api.TouchEar}}, []byte{1, 0xf8, 0xf8, 2, 0, 0}},
		{[]api.Touch{key(api.MaxTime, 39)}, []byte{1, 0xfd, 0, 0, 0, 0, 0, 1, 1, 39, 1}},
	} {
		if b, e := keys.Bytes(x.l); e != api.OK || !bytes.Equal(b, x.want) {
			t.Errorf("Bytes(%v) = % x, error %d, want % x", x.l, b, e, x.want)
		}
	}
}

// P17.2
func TestBytesRefuses(t *testing.T) {
	for want, all := range noLists() {
		for i, l := range all {
			if b, e := keys.Bytes(l); e != want || len(b) != 0 {
				t.Errorf("list %d: % x, error %d, want %d", i, b, e, want)
			}
		}
	}
}

// P17.3
func TestReadOfBytesIsTheList(t *testing.T) {
	long := slices.Repeat([]api.Touch{key(api.MaxTime, 39)}, api.MaxTouches)
	for i, l := range append(lists(), long) {
		b, _ := keys.Bytes(l)
		before := bytes.Clone(b)
		if got, e := keys.Read(b); e != api.OK || !slices.Equal(got, l) {
			t.Errorf("list %d: %d touches, error %d", i, len(got), e)
		}
		if !bytes.Equal(b, before) {
			t.Errorf("list %d: Read changed its bytes", i)
		}
	}
}

// put puts numbers of any list, of one that may not be, too.
func put(l []api.Touch) []byte {
	b := octet.Number(nil, uint64(len(l)))
	for _, x := range l {
		on := uint64(0)
		if x.On {
			on = 1
		}
		b = append(b, numbers(uint64(x.Time), uint64(x.What), uint64(x.Key), on)...)
	}
	return b
}

func numbers(l ...uint64) []byte {
	var b []byte
	for _, n := range l {
		b = octet.Number(b, n)
	}
	return b
}

// P17.2
func TestReadRefusesWhatIsNoListsBytes(t *testing.T) {
	refused := func(name string, b []byte) {
		t.Helper()
		if l, e := keys.Read(b); e != api.ErrBad || len(l) != 0 {
			t.Errorf("%s: Read(% x): %d touches, error %d", name, b[:min(len(b), 20)], len(l), e)
		}
	}
	for n := range givenBytes {
		refused("too few bytes", givenBytes[:n])
	}
	refused("nothing", nil)
	refused("a byte more", append(bytes.Clone(givenBytes), 0))
	refused("a touch more", append(bytes.Clone(givenBytes), 30, 1, 2, 0))
	refused("a byte more than none", []byte{0, 0})
	refused("On is a 2", []byte{1, 10, 1, 2, 2})
	refused("a number in other bytes", []byte{0xf8, 1, 10, 1, 2, 1})
	refused("a time in other bytes", []byte{1, 0xf8, 10, 1, 2, 1})
	refused("a number with a 0 above", []byte{1, 0xf9, 0xf8, 0, 1, 2, 1})
	for _, l := range mayNotBe {
		refused("a list that may not be", put(l))
	}
	whole := put(tooMany())
	refused("too many", whole)
	refused("the most, and one more", slices.Concat(numbers(api.MaxTouches), whole[len(numbers(api.MaxTouches+1)):]))
	for _, n := range []uint64{api.MaxTouches, api.MaxTouches + 1, 1 << 32, 1 << 63, math.MaxUint64} {
		refused("as many are not there", slices.Concat(numbers(n), givenBytes[1:]))
	}
	plain := [4]uint64{10, 1, 2, 1}
	for i, most := range [4]uint64{api.MaxTime, 2, 39, 1} {
		for _, n := range []uint64{most + 1, plain[i] + 1<<48, 1<<63 - 1, 1 << 63, 1<<63 + plain[i], math.MaxUint64} {
			x := plain
			x[i] = n
			refused("a number beyond its bound", slices.Concat([]byte{1}, numbers(x[:]...)))
		}
	}
}

// P17.3: whatever is read is put so again.
func TestNoOtherBytesAreReadAsAList(t *testing.T) {
	for at := range givenBytes {
		for c := range 256 {
			b := bytes.Clone(givenBytes)
			b[at] = byte(c)
			checkRead(t, b)
		}
	}
}

func FuzzRead(f *testing.F) {
	f.Add(givenBytes)
	f.Add([]byte{1, 0xfd, 0, 0, 0, 0, 0, 1, 1, 39, 1})
	f.Add(put(mixed))
	f.Fuzz(checkRead)
}

func checkRead(t *testing.T, b []byte) {
	l, e := keys.Read(b)
	if e != api.OK {
		if e != api.ErrBad || len(l) != 0 {
			t.Fatalf("Read(% x) = %v, error %d", b, l, e)
		}
		return
	}
	if again, e := keys.Bytes(l); e != api.OK || !bytes.Equal(again, b) {
		t.Fatalf("% x is put again as % x, error %d", b, again, e)
	}
	for _, at := range times {
		k := boardAt(l, at)
		if got := keys.Byte(l, at, 0x5a); got != k.read(0x5a) {
			t.Fatalf("% x at %d: Byte = %x", b, at, got)
		}
	}
}

// P17.2, rule 3
func TestBytesAreNewMemory(t *testing.T) {
	l := slices.Clone(given)
	one, _ := keys.Bytes(l)
	clear(one[:cap(one)])
	if two, _ := keys.Bytes(l); !bytes.Equal(two, givenBytes) || !slices.Equal(l, given) {
		t.Errorf("an answer is another's memory: % x", two)
	}
	b := bytes.Clone(givenBytes)
	three, _ := keys.Read(b)
	four, _ := keys.Read(b)
	clear(three[:cap(three)])
	clear(b)
	if !slices.Equal(four, given) {
		t.Errorf("what was read is another's memory: %v", four)
	}
}
