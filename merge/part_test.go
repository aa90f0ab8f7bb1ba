package merge_test

import (
	"math"
	"slices"
	"testing"

	"pendulum/api"
	"pendulum/merge"
)

// odd is a list that is no history: out of order, some of it twice, with events
// that may not be.
func odd() []api.Event {
	return []api.Event{
		{Time: 9, Chip: api.ChipUla, Seq: 5, Kind: api.EvAttr},
		{Time: -4, Chip: api.ChipCpu, Seq: -1, Kind: 13},
		{Time: math.MaxInt64, Chip: 0, Seq: 8, Kind: 0},
		{Time: 9, Chip: api.ChipUla, Seq: 5, Kind: api.EvAttr},
		{Time: 3, Chip: api.ChipCpu, Seq: 2, Kind: api.EvPixel, A: -1, B: 999},
		{Time: math.MinInt64, Chip: math.MaxInt, Seq: 6, Kind: math.MinInt},
		{Time: 8, Chip: math.MinInt, Seq: 6, Kind: math.MaxInt},
		{Time: 9, Chip: 0, Seq: 6, Kind: -1},
	}
}

// pick answers those of some places.
func pick(l []api.Event, places ...int) []api.Event {
	var some []api.Event
	for _, i := range places {
		some = append(some, l[i])
	}
	return some
}

// P4.1
func TestPart(t *testing.T) {
	for _, x := range []struct {
		name string
		l    []api.Event
		chip int
		want []int
	}{
		{"nil", nil, api.ChipCpu, nil},
		{"the cpu's", whole(), api.ChipCpu, []int{0, 4}},
		{"the ula's", whole(), api.ChipUla, []int{1, 2}},
		{"the sound chip's", whole(), api.ChipAy, []int{3}},
		{"the controller's", whole(), api.ChipFdc, []int{5}},
		{"no chip's", whole(), 0, nil},
		{"a chip's that is none", whole(), 5, nil},
		{"a chip's below all", whole(), -1, nil},
		{"of an odd list the ula's", odd(), api.ChipUla, []int{0, 3}},
		{"of an odd list the cpu's", odd(), api.ChipCpu, []int{1, 4}},
		{"of an odd list no chip's", odd(), 0, []int{2, 7}},
		{"of an odd list those of the greatest", odd(), math.MaxInt, []int{5}},
		{"of an odd list those of the least", odd(), math.MinInt, []int{6}},
	} {
		if got := merge.Part(x.l, x.chip); !slices.Equal(got, pick(x.l, x.want...)) {
			t.Errorf("%s: %v", x.name, got)
		}
	}
}

// P4.2
func TestCut(t *testing.T) {
	for _, x := range []struct {
		name   string
		l      []api.Event
		t      int64
		before []int
		behind []int
	}{
		{"nil", nil, 5, nil, nil},
		{"between", whole(), 5, []int{0, 1, 2, 3}, []int{4, 5}},
		{"at a Time", whole(), 9, []int{0, 1, 2, 3}, []int{4, 5}},
		{"behind a Time", whole(), 10, []int{0, 1, 2, 3, 4, 5}, nil},
		{"at the first Time", whole(), 3, nil, []int{0, 1, 2, 3, 4, 5}},
		{"behind the first Time", whole(), 4, []int{0, 1, 2, 3}, []int{4, 5}},
		{"at 0", whole(), 0, nil, []int{0, 1, 2, 3, 4, 5}},
		{"below all", whole(), math.MinInt64, nil, []int{0, 1, 2, 3, 4, 5}},
		{"beyond all", whole(), math.MaxInt64, []int{0, 1, 2, 3, 4, 5}, nil},
		{"an odd list", odd(), 9, []int{1, 4, 5, 6}, []int{0, 2, 3, 7}},
		{"an odd list at 0", odd(), 0, []int{1, 5}, []int{0, 2, 3, 4, 6, 7}},
		{"an odd list, below all", odd(), math.MinInt64, nil, []int{0, 1, 2, 3, 4, 5, 6, 7}},
		{"an odd list, at the greatest", odd(), math.MaxInt64, []int{0, 1, 3, 4, 5, 6, 7}, []int{2}},
	} {
		before, behind := merge.Cut(x.l, x.t)
		if !slices.Equal(before, pick(x.l, x.before...)) || !slices.Equal(behind, pick(x.l, x.behind...)) {
			t.Errorf("%s: %v and %v", x.name, before, behind)
		}
	}
}

// P4.2
func TestDiffer(t *testing.T) {
	a, b, c, x := fetch3, pixel3, read9, status9
	for _, y := range []struct {
		name string
		l, m []api.Event
		want int
	}{
		{"two nil ones", nil, nil, -1},
		{"nil and an empty one", nil, []api.Event{}, -1},
		{"the same", []api.Event{a, b, c}, []api.Event{a, b, c}, -1},
		{"the chapter's first", []api.Event{a, b, c}, []api.Event{a, b}, 2},
		{"the chapter's second", []api.Event{a, b, c}, []api.Event{a, x}, 1},
		{"of none and one", nil, []api.Event{a}, 0},
		{"at the first", []api.Event{x, b, c}, []api.Event{a, b, c}, 0},
		{"at the last", []api.Event{a, b, c}, []api.Event{a, b, x}, 2},
		{"at two places", []api.Event{a, b, c}, []api.Event{a, x, x}, 1},
		{"a greater length, too", []api.Event{a, b, c, a, b}, []api.Event{a, b, x}, 2},
		{"turned round", []api.Event{a, b}, []api.Event{b, a}, 0},
		{"an odd list and itself", odd(), odd(), -1},
		{"an odd list and its beginning", odd(), odd()[:3], 3},
	} {
		if got := merge.Differ(y.l, y.m); got != y.want {
			t.Errorf("%s: %d, want %d", y.name, got, y.want)
		}
		if got := merge.Differ(y.m, y.l); got != y.want {
			t.Errorf("%s, the other way: %d, want %d", y.name, got, y.want)
		}
	}
}

// P4.2: one number alone makes a difference.
func TestDifferByOneNumber(t *testing.T) {
	for i, change := range []func(e *api.Event){
		func(e *api.Event) { e.Time++ },
		func(e *api.Event) { e.Chip++ },
		func(e *api.Event) { e.Seq++ },
		func(e *api.Event) { e.Kind++ },
		func(e *api.Event) { e.A++ },
		func(e *api.Event) { e.B++ },
	} {
		l := whole()
		change(&l[3])
		if got := merge.Differ(whole(), l); got != 3 {
			t.Errorf("change %d: %d", i, got)
		}
	}
}

// P4.2
func TestCount(t *testing.T) {
	var all []api.Event
	want := [13]int{}
	for kind := 1; kind <= api.EvStatus; kind++ {
		for range kind + 1 {
			all = append(all, api.Event{Kind: kind})
		}
		want[kind] = kind + 1
	}
	for _, kind := range []int{0, -1, 13, 14, 255, 257, 1<<32 + 1, math.MinInt, math.MinInt + 1, math.MaxInt} {
		all = append(all, api.Event{Kind: kind, Chip: api.ChipCpu})
	}
	for _, x := range []struct {
		name string
		l    []api.Event
		want [13]int
	}{
		{"nil", nil, [13]int{}},
		{"a history", whole(), [13]int{api.EvFetch: 1, api.EvRead: 1, api.EvPixel: 1, api.EvAttr: 1, api.EvLevel: 1, api.EvStatus: 1}},
		{"all kinds, and none", all, want},
		{"an odd list", odd(), [13]int{api.EvPixel: 1, api.EvAttr: 2}},
	} {
		if got := merge.Count(x.l); got != x.want {
			t.Errorf("%s: %v, want %v", x.name, got, x.want)
		}
	}
}

// P4.2
func TestNumber(t *testing.T) {
	for _, x := range []struct {
		name string
		l    []api.Event
		want []int64
	}{
		{"nil", nil, nil},
		{"a history that is numbered", whole(), []int64{0, 0, 1, 0, 1, 0}},
		{"a cut", whole()[2:], []int64{0, 0, 0, 0}},
		{"one event thrice", []api.Event{attr3, attr3, attr3}, []int64{0, 1, 2}},
		{"an odd list", odd(), []int64{0, 0, 0, 1, 1, 0, 0, 1}},
	} {
		got := merge.Number(x.l)
		if len(got) != len(x.want) {
			t.Errorf("%s: %v", x.name, got)
			continue
		}
		for i, seq := range x.want {
			if want := at(x.l[i], func(e *api.Event) { e.Seq = seq }); got[i] != want {
				t.Errorf("%s: event %d is %+v, want %+v", x.name, i, got[i], want)
			}
		}
	}
}

// P4.2: numbered, the parts of a history are those of their chips alone.
func TestNumberedPartsAreAlone(t *testing.T) {
	roll := dice(3)
	for range 100 {
		l := randomHistory(roll, roll(60))
		numbered := merge.Number(l)
		for chip := api.ChipCpu; chip <= api.ChipFdc; chip++ {
			if part := merge.Part(numbered, chip); !merge.Alone(part, chip) {
				t.Fatalf("chip %d: %v", chip, part)
			}
		}
		if again := merge.Number(numbered); merge.Differ(numbered, again) != -1 {
			t.Fatalf("%v, then %v", numbered, again)
		}
	}
}

// P4.3
func TestMergeOfPartsIsTheWhole(t *testing.T) {
	roll := dice(4)
	for range 300 {
		l := randomHistory(roll, roll(60))
		var parts [][]api.Event
		for chip := api.ChipCpu; chip <= api.ChipFdc; chip++ {
			parts = append(parts, merge.Part(l, chip))
		}
		if got := merged(t, parts...); !slices.Equal(got, l) {
			t.Fatalf("%v out of %v", got, l)
		}
		slices.Reverse(parts)
		if got := merged(t, parts...); !slices.Equal(got, l) {
			t.Fatalf("%v out of %v, turned round", got, l)
		}
	}
}

// P4.3
func TestCutsOneBehindTheOtherAreAll(t *testing.T) {
	roll := dice(5)
	for range 300 {
		l := randomHistory(roll, roll(60))
		for time := int64(-1); time <= 7; time++ {
			before, behind := merge.Cut(l, time)
			if !slices.Equal(slices.Concat(before, behind), l) || !slices.Equal(merged(t, behind, before), l) {
				t.Fatalf("%v cut at %d: %v and %v", l, time, before, behind)
			}
		}
	}
}

// P4.1, P4.2, rule 3: each answer is new memory, and what was handed in stays.
func TestPartsAnswerNewMemory(t *testing.T) {
	takes := []struct {
		name string
		take func(l []api.Event) [][]api.Event
	}{
		{"Part", func(l []api.Event) [][]api.Event { return [][]api.Event{merge.Part(l, api.ChipUla)} }},
		{"Number", func(l []api.Event) [][]api.Event { return [][]api.Event{merge.Number(l)} }},
		{"Number of none", func(l []api.Event) [][]api.Event { return [][]api.Event{merge.Number(l[:0])} }},
		{"Cut", func(l []api.Event) [][]api.Event {
			before, behind := merge.Cut(l, 9)
			return [][]api.Event{before, behind}
		}},
		{"Cut behind all", func(l []api.Event) [][]api.Event {
			before, behind := merge.Cut(l, 99)
			return [][]api.Event{before, behind}
		}},
	}
	for _, x := range takes {
		all := whole()
		room := all[:5]
		answers := append(x.take(room), x.take(room)...)
		for i, answer := range answers {
			others := clones(answers)
			clear(answer[:cap(answer)])
			for j, other := range answers {
				if i != j && !slices.Equal(other, others[j]) {
					t.Errorf("%s: the answers %d and %d share memory", x.name, i, j)
				}
			}
		}
		if !slices.Equal(all, whole()) {
			t.Errorf("%s changed what was handed in: %v", x.name, all)
		}
	}
}

func clones(lists [][]api.Event) [][]api.Event {
	var copies [][]api.Event
	for _, l := range lists {
		copies = append(copies, slices.Clone(l))
	}
	return copies
}
