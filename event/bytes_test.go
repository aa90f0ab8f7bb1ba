package event_test

import (
	"bytes"
	"math"
	"testing"

	"pendulum/api"
	"pendulum/event"
	"pendulum/octet"
)

var plainBytes = []byte{2, 7, 3, 0xf9, 0, 0x40, 5}

// P3.2
func TestBytesAreTheFiveNumbers(t *testing.T) {
	for _, x := range []struct {
		e    api.Event
		want []byte
	}{
		{plain, plainBytes},
		{api.Event{Chip: api.ChipCpu, Kind: api.EvFetch}, []byte{1, 0, 0, 0, 0}},
		{api.Event{Time: 1, Chip: api.ChipUla, Seq: 2, Kind: api.EvBorder, A: 3, B: 4}, []byte{9, 1, 2, 3, 4}},
		{api.Event{Time: 247, Chip: api.ChipAy, Seq: 248, Kind: api.EvLevel, A: 2, B: 15}, []byte{11, 0xf7, 0xf8, 0xf8, 2, 15}},
		{
			api.Event{Time: api.MaxTime, Chip: api.ChipFdc, Seq: api.MaxSeq, Kind: api.EvStatus, A: 1 << 20, B: 255},
			[]byte{12, 0xfd, 0, 0, 0, 0, 0, 1, 0xfc, 0, 0, 0, 0, 1, 0xfa, 0, 0, 0x10, 0xf8, 0xff},
		},
	} {
		if b, err := event.Bytes(x.e); err != api.OK || !bytes.Equal(b, x.want) {
			t.Errorf("Bytes(%+v) = % x, error %d, want % x", x.e, b, err, x.want)
		}
	}
}

// P3.3
func TestReadOfBytesIsTheEvent(t *testing.T) {
	for _, e := range mayBe() {
		b, _ := event.Bytes(e)
		before := bytes.Clone(b)
		if got, err := event.Read(b); err != api.OK || got != e {
			t.Errorf("Read(% x) = %+v, error %d, want %+v", b, got, err, e)
		}
		if !bytes.Equal(b, before) {
			t.Errorf("Read changed % x to % x", before, b)
		}
	}
}

// numbersOf answers the numbers of any event, of one that may not be, too, in
// the order in which they stand in its bytes.
func numbersOf(e api.Event) [5]uint64 {
	return [5]uint64{uint64(e.Kind), uint64(e.Time), uint64(e.Seq), uint64(e.A), uint64(e.B)}
}

func put(numbers [5]uint64) []byte {
	var b []byte
	for _, n := range numbers {
		b = octet.Number(b, n)
	}
	return b
}

// P3.2
func TestReadRefusesWhatIsNoEventsBytes(t *testing.T) {
	refused := func(name string, b []byte) {
		if e, err := event.Read(b); err != api.ErrBad || e != (api.Event{}) {
			t.Errorf("%s: Read(% x) = %+v, error %d", name, b, e, err)
		}
	}
	for n := range plainBytes {
		refused("too few bytes", plainBytes[:n])
	}
	refused("nothing", nil)
	refused("a byte more", append(bytes.Clone(plainBytes), 0))
	refused("two events", append(bytes.Clone(plainBytes), plainBytes...))
	refused("a number in other bytes", []byte{0xf8, 2, 7, 3, 0xf9, 0, 0x40, 5})
	refused("a number with a 0 above", []byte{2, 7, 3, 0xfa, 0, 0x40, 0, 5})
	for _, x := range mayNotBe {
		// The bytes of an event do not tell its chip: with the kind's own it may be.
		if e := x.e; event.Check(ofItsChip(e)) != api.OK {
			refused(x.name, put(numbersOf(e)))
		}
	}
	bounds := [5]uint64{api.EvStatus, api.MaxTime, api.MaxSeq, 1 << 20, 255}
	for i, most := range bounds {
		for _, n := range []uint64{most + 1, numbersOf(plain)[i] + 1<<48, 1<<63 - 1, 1 << 63, math.MaxUint64} {
			numbers := numbersOf(plain)
			numbers[i] = n
			refused("a number beyond its bound", put(numbers))
		}
	}
	refused("kind 0", []byte{0, 7, 3, 4, 5})
	refused("kind 13", []byte{13, 7, 3, 4, 5})
}

func ofItsChip(e api.Event) api.Event {
	e.Chip = event.Chip(e.Kind)
	return e
}

// P3.3: whatever is read is put so again.
func TestNoOtherBytesAreReadAsAnEvent(t *testing.T) {
	for at := range plainBytes {
		for c := range 256 {
			b := bytes.Clone(plainBytes)
			b[at] = byte(c)
			checkRead(t, b)
		}
	}
}

func FuzzRead(f *testing.F) {
	f.Add(plainBytes)
	f.Add([]byte{12, 0xfd, 0, 0, 0, 0, 0, 1, 0xfc, 0, 0, 0, 0, 1, 0xfa, 0, 0, 0x10, 0xf8, 0xff})
	f.Fuzz(checkRead)
}

func checkRead(t *testing.T, b []byte) {
	e, err := event.Read(b)
	if err != api.OK {
		if err != api.ErrBad || e != (api.Event{}) {
			t.Fatalf("Read(% x) = %+v, error %d", b, e, err)
		}
		return
	}
	if again, err := event.Bytes(e); err != api.OK || !bytes.Equal(again, b) {
		t.Fatalf("% x is put again as % x, error %d", b, again, err)
	}
}

// P3.2, rule 3
func TestBytesAreNewMemory(t *testing.T) {
	one, _ := event.Bytes(plain)
	clear(one[:cap(one)])
	if two, _ := event.Bytes(plain); !bytes.Equal(two, plainBytes) {
		t.Errorf("an answer is another's memory: % x", two)
	}
}
