package merge_test

import (
	"bytes"
	"slices"
	"testing"

	"pendulum/api"
	"pendulum/event"
	"pendulum/merge"
	"pendulum/octet"
)

var (
	plain      = []api.Event{{Time: 7, Chip: api.ChipCpu, Seq: 3, Kind: api.EvRead, A: 16384, B: 5}, {Time: 8, Chip: api.ChipAy, Kind: api.EvLevel, A: 2, B: 15}}
	plainBytes = []byte{2, 7, 2, 7, 3, 0xf9, 0, 0x40, 5, 5, 11, 8, 0, 2, 15}
)

// P4.2
func TestBytes(t *testing.T) {
	for _, x := range []struct {
		name string
		l    []api.Event
		want []byte
	}{
		{"nil", nil, []byte{0}},
		{"an empty one", []api.Event{}, []byte{0}},
		{"one", plain[:1], []byte{1, 7, 2, 7, 3, 0xf9, 0, 0x40, 5}},
		{"two", plain, plainBytes},
		{
			"the greatest",
			[]api.Event{{Time: api.MaxTime, Chip: api.ChipFdc, Seq: api.MaxSeq, Kind: api.EvStatus, A: 1 << 20, B: 255}},
			[]byte{1, 20, 12, 0xfd, 0, 0, 0, 0, 0, 1, 0xfc, 0, 0, 0, 0, 1, 0xfa, 0, 0, 0x10, 0xf8, 0xff},
		},
	} {
		if b, err := merge.Bytes(x.l); err != api.OK || !bytes.Equal(b, x.want) {
			t.Errorf("%s: % x, error %d", x.name, b, err)
		}
	}
	for _, n := range []int{247, 248, 1000} {
		b, err := merge.Bytes(longest()[:n])
		if err != api.OK || !bytes.Equal(b, raw(longest()[:n])) {
			t.Errorf("%d events: %d bytes, error %d", n, len(b), err)
		}
	}
}

// P4.2
func TestBytesErrors(t *testing.T) {
	for _, x := range noHistories {
		if b, err := merge.Bytes(x.l); err != api.ErrArg || len(b) != 0 {
			t.Errorf("%s: error %d, %d bytes", x.name, err, len(b))
		}
	}
	if b, err := merge.Bytes(longest()); err != api.ErrLong || len(b) != 0 {
		t.Errorf("too many events: error %d, %d bytes", err, len(b))
	}
}

// P4.2
func TestReadOfBytesIsTheHistory(t *testing.T) {
	for _, x := range histories {
		b, _ := merge.Bytes(x.l)
		before := bytes.Clone(b)
		if got, err := merge.Read(b); err != api.OK || !slices.Equal(got, x.l) {
			t.Errorf("%s: %v, error %d", x.name, got, err)
		}
		if !bytes.Equal(b, before) {
			t.Errorf("%s: Read changed % x to % x", x.name, before, b)
		}
	}
	roll := dice(6)
	for range 100 {
		l := randomHistory(roll, roll(60))
		b, _ := merge.Bytes(l)
		if got, err := merge.Read(b); err != api.OK || !slices.Equal(got, l) {
			t.Fatalf("%v: %v, error %d", l, got, err)
		}
	}
}

// P4.2: as many events as may be go to bytes and back, one more does not.
func TestReadOfManyEvents(t *testing.T) {
	l := longest()
	full := l[:api.MaxHistory]
	b, err := merge.Bytes(full)
	if err != api.OK {
		t.Fatal("Bytes: error", err)
	}
	if got, err := merge.Read(b); err != api.OK || merge.Differ(got, full) != -1 {
		t.Errorf("Read: %d events, error %d", len(got), err)
	}
	counted := len(octet.Number(nil, api.MaxHistory))
	more := octet.Number(nil, api.MaxHistory+1)
	more = append(more, b[counted:]...)
	more = append(more, eventBlock(l[api.MaxHistory])...)
	if got, err := merge.Read(more); err != api.ErrBad || len(got) != 0 {
		t.Errorf("one more: %d events, error %d", len(got), err)
	}
}

// raw puts any list whose events may be, of what is no history, too.
func raw(l []api.Event) []byte {
	b := octet.Number(nil, uint64(len(l)))
	for _, e := range l {
		b = append(b, eventBlock(e)...)
	}
	return b
}

func eventBlock(e api.Event) []byte {
	p, _ := event.Bytes(e)
	b, _ := octet.Block(nil, p)
	return b
}

// P4.2
func TestReadRefusesWhatIsNoHistorysBytes(t *testing.T) {
	first, second := plainBytes[1:9], plainBytes[9:]
	for _, x := range []struct {
		name string
		b    []byte
	}{
		{"nil", nil},
		{"a byte more", append(bytes.Clone(plainBytes), 0)},
		{"two histories", slices.Concat(plainBytes, plainBytes)},
		{"none, and a byte more", []byte{0, 0}},
		{"one counted, two there", slices.Concat([]byte{1}, first, second)},
		{"three counted, two there", slices.Concat([]byte{3}, first, second)},
		{"the count in other bytes", slices.Concat([]byte{0xf8, 2}, first, second)},
		{"the count with a 0 above", slices.Concat([]byte{0xf9, 2, 0}, first, second)},
		{"as many as may be counted", octet.Number(nil, api.MaxHistory)},
		{"one more counted", octet.Number(nil, api.MaxHistory+1)},
		{"the greatest count", octet.Number(nil, 1<<64-1)},
		{"a count beyond 32 bits", slices.Concat(octet.Number(nil, 1<<32+2), first, second)},
		{"an empty block", []byte{1, 0}},
		{"a block without its bytes", []byte{1, 7}},
		{"an event without its block", slices.Concat([]byte{1}, first[1:])},
		{"a block that is longer than its event", []byte{1, 6, 11, 8, 0, 2, 15, 0}},
		{"a block that is shorter than its event", []byte{1, 4, 11, 8, 0, 2, 15}},
		{"two events in one block", slices.Concat([]byte{1, 12}, first[1:], second[1:])},
		{"a block's length in other bytes", slices.Concat([]byte{1, 0xf8, 7}, first[1:])},
		{"a block that is too long", slices.Concat([]byte{1}, octet.Number(nil, api.MaxBlock+1), make([]byte, api.MaxBlock+1))},
		{"an event's number in other bytes", []byte{1, 6, 11, 0xf8, 8, 0, 2, 15}},
		{"an event that may not be", []byte{1, 5, 13, 8, 0, 2, 15}},
		{"two turned round", slices.Concat([]byte{2}, second, first)},
		{"one twice", slices.Concat([]byte{2}, first, first)},
		{"two of three turned round", raw([]api.Event{fetch3, read9, pixel3})},
	} {
		if l, err := merge.Read(x.b); err != api.ErrBad || len(l) != 0 {
			t.Errorf("%s: %v, error %d", x.name, l, err)
		}
	}
	for n := range plainBytes {
		if l, err := merge.Read(plainBytes[:n]); err != api.ErrBad || len(l) != 0 {
			t.Errorf("the first %d bytes: %v, error %d", n, l, err)
		}
	}
}

// P4.2: whatever is read is put so again.
func TestNoOtherBytesAreReadAsAHistory(t *testing.T) {
	for i := range plainBytes {
		for c := range 256 {
			b := bytes.Clone(plainBytes)
			b[i] = byte(c)
			checkRead(t, b)
		}
	}
}

func FuzzRead(f *testing.F) {
	f.Add([]byte{0})
	f.Add(plainBytes)
	f.Add(raw(whole()))
	f.Fuzz(checkRead)
}

func checkRead(t *testing.T, b []byte) {
	l, err := merge.Read(b)
	if err != api.OK {
		if err != api.ErrBad || len(l) != 0 {
			t.Fatalf("Read(% x) = %v, error %d", b, l, err)
		}
		return
	}
	if again, err := merge.Bytes(l); err != api.OK || !bytes.Equal(again, b) {
		t.Fatalf("% x is put again as % x, error %d", b, again, err)
	}
}

// P4.2, rule 3
func TestBytesAndReadAnswerNewMemory(t *testing.T) {
	all := whole()
	one, _ := merge.Bytes(all[:5])
	two, _ := merge.Bytes(all[:5])
	want := bytes.Clone(two)
	clear(one[:cap(one)])
	if !bytes.Equal(two, want) || !slices.Equal(all, whole()) {
		t.Error("the answer of Bytes shares memory")
	}
	l, _ := merge.Read(two)
	m, _ := merge.Read(two)
	clear(l[:cap(l)])
	if !bytes.Equal(two, want) || !slices.Equal(m, all[:5]) {
		t.Error("the answer of Read shares memory")
	}
	clear(two)
	if !slices.Equal(m, all[:5]) {
		t.Error("Read keeps what was handed in")
	}
}
