package merge_test

import (
	"math"
	"slices"
	"sync"
	"testing"

	"pendulum/api"
	"pendulum/event"
	"pendulum/merge"
)

// The events of the chapter's example, and some beside them.
var (
	fetch3  = api.Event{Time: 3, Chip: api.ChipCpu, Seq: 0, Kind: api.EvFetch, A: 1, B: 2}
	read9   = api.Event{Time: 9, Chip: api.ChipCpu, Seq: 1, Kind: api.EvRead, A: 16384, B: 5}
	pixel3  = api.Event{Time: 3, Chip: api.ChipUla, Seq: 0, Kind: api.EvPixel, A: 81920, B: 7}
	attr3   = api.Event{Time: 3, Chip: api.ChipUla, Seq: 1, Kind: api.EvAttr, A: 88064, B: 56}
	level3  = api.Event{Time: 3, Chip: api.ChipAy, Seq: 0, Kind: api.EvLevel, A: 2, B: 15}
	status9 = api.Event{Time: 9, Chip: api.ChipFdc, Seq: 0, Kind: api.EvStatus, A: 1, B: 255}
)

func whole() []api.Event {
	return []api.Event{fetch3, pixel3, attr3, level3, read9, status9}
}

// at is the same event, changed.
func at(e api.Event, change func(e *api.Event)) api.Event {
	change(&e)
	return e
}

// longest is a history of one event more than there may be. No test may change it.
var longest = sync.OnceValue(func() []api.Event {
	l := make([]api.Event, api.MaxHistory+1)
	for i := range l {
		l[i] = api.Event{Time: int64(i), Chip: api.ChipCpu, Seq: int64(i), Kind: api.EvFetch, A: i % 65536, B: i % 256}
	}
	return l
})

var histories = []struct {
	name string
	l    []api.Event
}{
	{"nil", nil},
	{"an empty one", []api.Event{}},
	{"one event", []api.Event{read9}},
	{"all chips", whole()},
	{"a Seq that is not that of a chip alone", []api.Event{at(fetch3, func(e *api.Event) { e.Seq = 7 }), read9}},
	{"one Seq, a later Kind", []api.Event{fetch3, at(fetch3, func(e *api.Event) { e.Kind = api.EvRead })}},
	{"one Seq and Kind, a greater A", []api.Event{fetch3, at(fetch3, func(e *api.Event) { e.A++ })}},
	{"one Seq, Kind and A, a greater B", []api.Event{fetch3, at(fetch3, func(e *api.Event) { e.B++ })}},
	{"a later Time, all else lower", []api.Event{status9, {Time: 10, Chip: api.ChipCpu, Kind: api.EvFetch}}},
	{"the least and the greatest", []api.Event{
		{Chip: api.ChipCpu, Kind: api.EvFetch},
		{Time: api.MaxTime, Chip: api.ChipFdc, Seq: api.MaxSeq, Kind: api.EvStatus, A: 1 << 20, B: 255},
	}},
}

var noHistories = []struct {
	name string
	l    []api.Event
}{
	{"an event that is zero", []api.Event{{}}},
	{"two turned round", []api.Event{read9, fetch3}},
	{"chips turned round", []api.Event{pixel3, fetch3}},
	{"Seqs turned round", []api.Event{attr3, pixel3}},
	{"Kinds turned round", []api.Event{at(fetch3, func(e *api.Event) { e.Kind = api.EvRead }), fetch3}},
	{"As turned round", []api.Event{at(fetch3, func(e *api.Event) { e.A++ }), fetch3}},
	{"Bs turned round", []api.Event{at(fetch3, func(e *api.Event) { e.B++ }), fetch3}},
	{"one twice", []api.Event{fetch3, fetch3}},
	{"the last one twice", append(whole(), status9)},
	{"the first one again at the end", append(whole(), fetch3)},
	{"the first may not be", []api.Event{at(fetch3, func(e *api.Event) { e.Time = -1 }), read9}},
	{"the middle may not be", []api.Event{fetch3, at(pixel3, func(e *api.Event) { e.B = 256 }), read9}},
	{"the last may not be", []api.Event{fetch3, at(read9, func(e *api.Event) { e.Seq = api.MaxSeq + 1 })}},
	{"a Time that is none", []api.Event{at(fetch3, func(e *api.Event) { e.Time = api.MaxTime + 1 })}},
	{"a Kind of another chip", []api.Event{at(fetch3, func(e *api.Event) { e.Chip = api.ChipAy })}},
	{"a Kind that is none", []api.Event{at(fetch3, func(e *api.Event) { e.Kind = 13 })}},
	{"an A that is too great", []api.Event{at(fetch3, func(e *api.Event) { e.A = 1<<20 + 1 })}},
}

// P4.1
func TestCheck(t *testing.T) {
	for _, x := range histories {
		if err := merge.Check(x.l); err != api.OK {
			t.Errorf("%s: error %d", x.name, err)
		}
	}
	for _, x := range noHistories {
		if err := merge.Check(x.l); err != api.ErrArg {
			t.Errorf("%s: error %d", x.name, err)
		}
	}
}

// P4.1: that there are too many comes ahead of what they are.
func TestCheckOfManyEvents(t *testing.T) {
	l := longest()
	if err := merge.Check(l[:api.MaxHistory]); err != api.OK {
		t.Error("as many as may be: error", err)
	}
	if err := merge.Check(l); err != api.ErrLong {
		t.Error("one more: error", err)
	}
	none := make([]api.Event, api.MaxHistory+1)
	if err := merge.Check(none); err != api.ErrLong {
		t.Error("one more, none of them may be: error", err)
	}
	if err := merge.Check(none[1:]); err != api.ErrArg {
		t.Error("as many as may be, none of them may be: error", err)
	}
}

// P4.1
func TestAlone(t *testing.T) {
	two := []api.Event{fetch3, read9}
	for _, x := range []struct {
		name string
		l    []api.Event
		chip int
		want bool
	}{
		{"nil", nil, api.ChipAy, true},
		{"an empty one", []api.Event{}, api.ChipFdc, true},
		{"a cpu's", two, api.ChipCpu, true},
		{"a cpu's, asked for the ula", two, api.ChipUla, false},
		{"a cpu's, asked for no chip", two, 0, false},
		{"a cpu's, asked for a chip below all", two, math.MinInt, false},
		{"an ula's", []api.Event{pixel3, attr3}, api.ChipUla, true},
		{"a sound chip's", []api.Event{level3}, api.ChipAy, true},
		{"a controller's", []api.Event{status9}, api.ChipFdc, true},
		{"two chips'", []api.Event{fetch3, pixel3}, api.ChipCpu, false},
		{"two chips', Seqs from 0 on", []api.Event{fetch3, at(pixel3, func(e *api.Event) { e.Seq = 1 })}, api.ChipCpu, false},
		{"a Seq that is missing at the beginning", two[1:], api.ChipCpu, false},
		{"a Seq that is missing", []api.Event{fetch3, at(read9, func(e *api.Event) { e.Seq = 2 })}, api.ChipCpu, false},
		{"a Seq twice", []api.Event{fetch3, at(read9, func(e *api.Event) { e.Seq = 0 })}, api.ChipCpu, false},
		{"one Time for both", []api.Event{fetch3, at(read9, func(e *api.Event) { e.Time = 3 })}, api.ChipCpu, true},
		{"Times turned round", []api.Event{fetch3, at(read9, func(e *api.Event) { e.Time = 2 })}, api.ChipCpu, false},
		{"an event that may not be", []api.Event{fetch3, at(read9, func(e *api.Event) { e.B = 256 })}, api.ChipCpu, false},
		{"a Kind of another chip", []api.Event{at(fetch3, func(e *api.Event) { e.Kind = api.EvPixel })}, api.ChipCpu, false},
		{"an event of no chip", []api.Event{{}}, 0, false},
		{"as many as may be", longest()[:api.MaxHistory], api.ChipCpu, true},
		{"one more", longest(), api.ChipCpu, false},
	} {
		if got := merge.Alone(x.l, x.chip); got != x.want {
			t.Errorf("%s: %t", x.name, got)
		}
	}
}

// P4.1
func TestMerge(t *testing.T) {
	for _, x := range []struct {
		name    string
		l, want []api.Event
		more    [][]api.Event
	}{
		{"the chapter's example", []api.Event{fetch3, read9}, []api.Event{fetch3, pixel3, read9}, [][]api.Event{{pixel3}}},
		{"one list", whole(), whole(), nil},
		{"empty ones among them", nil, whole(), [][]api.Event{{}, whole(), nil}},
		{"empty ones alone", nil, nil, [][]api.Event{{}, nil}},
		{"one behind the other", []api.Event{fetch3, pixel3}, whole(), [][]api.Event{{attr3, level3, read9, status9}}},
		{"one ahead of the other", []api.Event{read9, status9}, whole(), [][]api.Event{{fetch3, pixel3, attr3, level3}}},
		{"by turns", []api.Event{fetch3, attr3, read9}, whole(), [][]api.Event{{pixel3, level3, status9}}},
		{"one each", []api.Event{status9}, whole(), [][]api.Event{{level3}, {pixel3}, {fetch3}, {read9}, {attr3}}},
	} {
		got, err := merge.Merge(append([][]api.Event{x.l}, x.more...)...)
		if err != api.OK || !slices.Equal(got, x.want) {
			t.Errorf("%s: %v, error %d", x.name, got, err)
		}
	}
	if got, err := merge.Merge(); err != api.OK || len(got) != 0 {
		t.Error("no lists:", got, err)
	}
	if got, err := merge.Merge([][]api.Event(nil)...); err != api.OK || len(got) != 0 {
		t.Error("a nil list of lists:", got, err)
	}
}

// P4.1: events of two lists that differ in one number alone are not the same.
func TestMergeOfEventsThatAreNearlyTheSame(t *testing.T) {
	changes := []func(e *api.Event){
		func(e *api.Event) { e.Time++ },
		func(e *api.Event) { e.Seq++ },
		func(e *api.Event) { e.Kind = api.EvWrite },
		func(e *api.Event) { e.A++ },
		func(e *api.Event) { e.B++ },
	}
	for i, change := range changes {
		other := at(read9, change)
		want := []api.Event{read9, other}
		for _, l := range [][][]api.Event{{{read9}, {other}}, {{other}, {read9}}} {
			if got, err := merge.Merge(l...); err != api.OK || !slices.Equal(got, want) {
				t.Errorf("change %d: %v, error %d", i, got, err)
			}
		}
	}
}

// P4.1
func TestMergeErrors(t *testing.T) {
	bad := []api.Event{read9, fetch3}
	full := longest()[:api.MaxHistory]
	for _, x := range []struct {
		name string
		l    [][]api.Event
		want api.Errno
	}{
		{"one list twice", [][]api.Event{whole(), whole()}, api.ErrArg},
		{"an empty list twice", [][]api.Event{nil, nil}, api.OK},
		{"the first event twice", [][]api.Event{whole(), {fetch3}}, api.ErrArg},
		{"the last event twice", [][]api.Event{{status9}, whole()}, api.ErrArg},
		{"an event in the first and the last list", [][]api.Event{{attr3}, {fetch3, read9}, {}, {pixel3}, {attr3, status9}}, api.ErrArg},
		{"an event in three lists", [][]api.Event{{attr3}, {attr3}, {attr3}}, api.ErrArg},
		{"a list that is no history", [][]api.Event{bad}, api.ErrArg},
		{"the last list is no history", [][]api.Event{whole(), {}, bad}, api.ErrArg},
		{"a list that is too long", [][]api.Event{longest()}, api.ErrLong},
		{"first one that is too long", [][]api.Event{{fetch3}, longest(), bad}, api.ErrLong},
		{"first one that is no history", [][]api.Event{{fetch3}, bad, longest()}, api.ErrArg},
		{"as many in all as may be", [][]api.Event{full[1000:], full[:1000]}, api.OK},
		{"one more in all", [][]api.Event{full, {status9}}, api.ErrLong},
		{"too many in all, and one is no history", [][]api.Event{full, {status9}, bad}, api.ErrArg},
		{"too many in all, and the same", [][]api.Event{full, full}, api.ErrLong},
	} {
		got, err := merge.Merge(x.l...)
		if err != x.want || err != api.OK && len(got) != 0 {
			t.Errorf("%s: error %d, want %d; %d events", x.name, err, x.want, len(got))
		}
	}
	for _, x := range noHistories {
		if got, err := merge.Merge(whole(), x.l); err != api.ErrArg || len(got) != 0 {
			t.Errorf("%s: error %d", x.name, err)
		}
	}
}

// P4.1, P4.3: of many lists, against all events sorted.
func TestMergeOfManyLists(t *testing.T) {
	roll := dice(1)
	for range 300 {
		l := randomHistory(roll, roll(60))
		lists := deal(roll, l, 1+roll(12))
		if got, err := merge.Merge(lists...); err != api.OK || !slices.Equal(got, l) {
			t.Fatalf("%v: %v, error %d", lists, got, err)
		}
	}
	const many = 1 << 16
	l := longest()[:many]
	lists := make([][]api.Event, many)
	for i := range lists {
		lists[i] = l[many-1-i : many-i]
	}
	if got, err := merge.Merge(lists...); err != api.OK || !slices.Equal(got, l) {
		t.Errorf("one event a list: %d events, error %d", len(got), err)
	}
}

// P4.3: neither the order of the lists matters, nor how they are bracketed.
func TestMergeDoesNotHangOnOrderOrBrackets(t *testing.T) {
	roll := dice(2)
	for range 300 {
		l := randomHistory(roll, roll(40))
		x := deal(roll, l, 3)
		for _, p := range [][3]int{{0, 1, 2}, {0, 2, 1}, {1, 0, 2}, {1, 2, 0}, {2, 0, 1}, {2, 1, 0}} {
			a, b, c := x[p[0]], x[p[1]], x[p[2]]
			flat := merged(t, a, b, c)
			left := merged(t, merged(t, a, b), c)
			right := merged(t, a, merged(t, b, c))
			if !slices.Equal(flat, l) || !slices.Equal(left, l) || !slices.Equal(right, l) {
				t.Fatalf("%v, order %v:\n%v\n%v\n%v", x, p, flat, left, right)
			}
		}
	}
}

// P4.1, rule 3: nothing that was handed in is changed or shared, spare room neither.
func TestMergeAnswersNewMemory(t *testing.T) {
	all := whole()
	lists := [][]api.Event{all[:2], all[2:5:5], {}, all[5:]}
	kept := slices.Clone(lists)
	one := merged(t, lists...)
	two := merged(t, lists...)
	only := merged(t, all[:2])
	for _, answer := range [][]api.Event{one, only} {
		clear(answer[:cap(answer)])
	}
	if !slices.Equal(all, whole()) || !slices.Equal(two, whole()) {
		t.Errorf("an answer shares memory: %v, %v", all, two)
	}
	for i := range lists {
		if len(lists[i]) != len(kept[i]) || len(lists[i]) > 0 && &lists[i][0] != &kept[i][0] {
			t.Errorf("list %d was changed", i)
		}
	}
}

func merged(t *testing.T, l ...[]api.Event) []api.Event {
	t.Helper()
	got, err := merge.Merge(l...)
	if err != api.OK {
		t.Fatalf("Merge of %v: error %d", l, err)
	}
	return got
}

// dice answers numbers below most, the same ones in each run of the tests.
func dice(seed uint64) func(most int) int {
	state := seed
	return func(most int) int {
		state = state*6364136223846793005 + 1442695040888963407
		return int(state>>33) % most
	}
}

// randomHistory has at most n events, close to each other, so that many are
// told apart by their last numbers alone.
func randomHistory(roll func(int) int, n int) []api.Event {
	var l []api.Event
	for range n {
		kind := 1 + roll(api.EvStatus)
		l = append(l, api.Event{
			Time: int64(roll(6)), Chip: event.Chip(kind), Seq: int64(roll(3)),
			Kind: kind, A: roll(3), B: roll(3),
		})
	}
	slices.SortFunc(l, event.Order)
	return slices.Compact(l)
}

// deal deals the events of a list out to n lists.
func deal(roll func(int) int, l []api.Event, n int) [][]api.Event {
	lists := make([][]api.Event, n)
	for _, e := range l {
		i := roll(n)
		lists[i] = append(lists[i], e)
	}
	return lists
}
