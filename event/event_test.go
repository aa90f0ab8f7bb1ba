package event_test

import (
	"math"
	"slices"
	"testing"

	"pendulum/api"
	"pendulum/event"
)

var kinds = []struct {
	kind, chip int
	name       string
}{
	{api.EvFetch, api.ChipCpu, "fetch"},
	{api.EvRead, api.ChipCpu, "read"},
	{api.EvWrite, api.ChipCpu, "write"},
	{api.EvIn, api.ChipCpu, "in"},
	{api.EvOut, api.ChipCpu, "out"},
	{api.EvAck, api.ChipCpu, "ack"},
	{api.EvPixel, api.ChipUla, "pixel"},
	{api.EvAttr, api.ChipUla, "attr"},
	{api.EvBorder, api.ChipUla, "border"},
	{api.EvBeep, api.ChipUla, "beep"},
	{api.EvLevel, api.ChipAy, "level"},
	{api.EvStatus, api.ChipFdc, "status"},
}

var noKinds = []int{0, -1, 13, 14, 1 << 32, 1<<32 + 2, math.MinInt, math.MaxInt}

// plain is the event of the chapter's examples.
var plain = api.Event{Time: 7, Chip: api.ChipCpu, Seq: 3, Kind: api.EvRead, A: 16384, B: 5}

// with answers the plain event, changed.
func with(change func(e *api.Event)) api.Event {
	e := plain
	change(&e)
	return e
}

// mayBe has events of each kind, with numbers at all bounds and between.
func mayBe() []api.Event {
	var l []api.Event
	for _, k := range kinds {
		for _, time := range []int64{0, 7, 300, api.MaxTime - 1, api.MaxTime} {
			for _, seq := range []int64{0, 3, api.MaxSeq} {
				for _, a := range []int{0, 248, 1<<16 - 1, 1 << 20} {
					for _, b := range []int{0, 5, 248, 255} {
						l = append(l, api.Event{Time: time, Chip: k.chip, Seq: seq, Kind: k.kind, A: a, B: b})
					}
				}
			}
		}
	}
	return l
}

var mayNotBe = []struct {
	name string
	e    api.Event
}{
	{"nothing", api.Event{}},
	{"time -1", with(func(e *api.Event) { e.Time = -1 })},
	{"the least time", with(func(e *api.Event) { e.Time = math.MinInt64 })},
	{"a time above MaxTime", with(func(e *api.Event) { e.Time = api.MaxTime + 1 })},
	{"the most time", with(func(e *api.Event) { e.Time = math.MaxInt64 })},
	{"seq -1", with(func(e *api.Event) { e.Seq = -1 })},
	{"the least seq", with(func(e *api.Event) { e.Seq = math.MinInt64 })},
	{"a seq above MaxSeq", with(func(e *api.Event) { e.Seq = api.MaxSeq + 1 })},
	{"the most seq", with(func(e *api.Event) { e.Seq = math.MaxInt64 })},
	{"A -1", with(func(e *api.Event) { e.A = -1 })},
	{"the least A", with(func(e *api.Event) { e.A = math.MinInt })},
	{"A above its most", with(func(e *api.Event) { e.A = 1<<20 + 1 })},
	{"the most A", with(func(e *api.Event) { e.A = math.MaxInt })},
	{"B -1", with(func(e *api.Event) { e.B = -1 })},
	{"the least B", with(func(e *api.Event) { e.B = math.MinInt })},
	{"B 256", with(func(e *api.Event) { e.B = 256 })},
	{"the most B", with(func(e *api.Event) { e.B = math.MaxInt })},
	{"no chip", with(func(e *api.Event) { e.Chip = 0 })},
	{"chip -1", with(func(e *api.Event) { e.Chip = -1 })},
	{"chip 5", with(func(e *api.Event) { e.Chip = 5 })},
	{"the most chip", with(func(e *api.Event) { e.Chip = math.MaxInt })},
	{"no kind", with(func(e *api.Event) { e.Kind = 0 })},
	{"no kind, no chip", with(func(e *api.Event) { e.Kind, e.Chip = 0, 0 })},
	{"kind -1, no chip", with(func(e *api.Event) { e.Kind, e.Chip = -1, 0 })},
	{"kind 13", with(func(e *api.Event) { e.Kind = 13 })},
	{"kind 13, no chip", with(func(e *api.Event) { e.Kind, e.Chip = 13, 0 })},
	{"kind 13, chip 4", with(func(e *api.Event) { e.Kind, e.Chip = 13, 4 })},
	{"the least kind", with(func(e *api.Event) { e.Kind = math.MinInt })},
	{"the most kind", with(func(e *api.Event) { e.Kind, e.Chip = math.MaxInt, 0 })},
}

// P3.1
func TestChipAndNameOfKinds(t *testing.T) {
	for _, k := range kinds {
		if c, n := event.Chip(k.kind), event.Name(k.kind); c != k.chip || n != k.name {
			t.Errorf("kind %d: Chip %d, Name %q, want %d, %q", k.kind, c, n, k.chip, k.name)
		}
	}
	for _, kind := range noKinds {
		if c, n := event.Chip(kind), event.Name(kind); c != 0 || n != "" {
			t.Errorf("kind %d, which is none: Chip %d, Name %q", kind, c, n)
		}
	}
}

// P3.1
func TestCheckOfEventsThatMayBe(t *testing.T) {
	for _, e := range mayBe() {
		if err := event.Check(e); err != api.OK {
			t.Errorf("Check(%+v) = %d", e, err)
		}
	}
}

// P3.1, P3.2: what may not be has an error, no bytes and no text.
func TestEventsThatMayNotBe(t *testing.T) {
	for _, x := range mayNotBe {
		if err := event.Check(x.e); err != api.ErrArg {
			t.Errorf("%s: Check %d", x.name, err)
		}
		if b, err := event.Bytes(x.e); err != api.ErrArg || len(b) != 0 {
			t.Errorf("%s: Bytes % x, error %d", x.name, b, err)
		}
		if s := event.Text(x.e); s != "" {
			t.Errorf("%s: Text %q", x.name, s)
		}
	}
}

// P3.1: a kind goes with its own chip alone.
func TestCheckOfEachKindWithEachChip(t *testing.T) {
	for kind := -1; kind <= 14; kind++ {
		for chip := -1; chip <= 6; chip++ {
			want := api.ErrArg
			for _, k := range kinds {
				if k.kind == kind && k.chip == chip {
					want = api.OK
				}
			}
			if err := event.Check(api.Event{Kind: kind, Chip: chip}); err != want {
				t.Errorf("kind %d of chip %d: %d, want %d", kind, chip, err, want)
			}
		}
	}
}

// inOrder has events that rise; each differs from the one ahead of it in one
// number more, those behind it in the order falling.
var inOrder = []api.Event{
	{Time: math.MinInt64, Chip: 9, Seq: 9, Kind: 9, A: 9, B: 9},
	{Time: -1, Chip: 9, Seq: 9, Kind: 9, A: 9, B: 9},
	{Time: 0, Chip: math.MinInt, Seq: 9, Kind: 9, A: 9, B: 9},
	{Time: 0, Chip: -1, Seq: 9, Kind: 9, A: 9, B: 9},
	{Time: 0, Chip: 0, Seq: math.MinInt64, Kind: 9, A: 9, B: 9},
	{Time: 0, Chip: 0, Seq: 0, Kind: math.MinInt, A: 9, B: 9},
	{Time: 0, Chip: 0, Seq: 0, Kind: 0, A: math.MinInt, B: 9},
	{Time: 0, Chip: 0, Seq: 0, Kind: 0, A: 0, B: math.MinInt},
	{Time: 0, Chip: 0, Seq: 0, Kind: 0, A: 0, B: -1},
	{Time: 0, Chip: 0, Seq: 0, Kind: 0, A: 0, B: 0},
	{Time: 0, Chip: 0, Seq: 0, Kind: 0, A: 0, B: math.MaxInt},
	{Time: 0, Chip: 0, Seq: 0, Kind: 0, A: 1, B: -9},
	{Time: 0, Chip: 0, Seq: 0, Kind: 0, A: math.MaxInt, B: -9},
	{Time: 0, Chip: 0, Seq: 0, Kind: 1, A: -9, B: -9},
	{Time: 0, Chip: 0, Seq: 0, Kind: math.MaxInt, A: -9, B: -9},
	{Time: 0, Chip: 0, Seq: 1, Kind: -9, A: -9, B: -9},
	{Time: 0, Chip: 0, Seq: math.MaxInt64, Kind: -9, A: -9, B: -9},
	{Time: 0, Chip: 1, Seq: -9, Kind: -9, A: -9, B: -9},
	{Time: 0, Chip: math.MaxInt, Seq: -9, Kind: -9, A: -9, B: -9},
	{Time: 1, Chip: -9, Seq: -9, Kind: -9, A: -9, B: -9},
	plain,
	{Time: 7, Chip: api.ChipUla, Kind: api.EvPixel},
	{Time: math.MaxInt64, Chip: -9, Seq: -9, Kind: -9, A: -9, B: -9},
}

// P3.1, P3.3
func TestOrder(t *testing.T) {
	for i, a := range inOrder {
		for j, b := range inOrder {
			want := 0
			if i < j {
				want = -1
			} else if i > j {
				want = 1
			}
			if got := event.Order(a, b); got != want {
				t.Errorf("Order(%+v, %+v) = %d, want %d", a, b, got, want)
			}
		}
	}
}

// P3.3: one order for all, 0 just of the same.
func TestOrderIsOneForAll(t *testing.T) {
	var l []api.Event
	for i := range 729 {
		l = append(l, api.Event{
			Time: int64(i%3 - 1), Chip: i/3%3 - 1, Seq: int64(i/9%3 - 1),
			Kind: i/27%3 - 1, A: i/81%3 - 1, B: i/243%3 - 1,
		})
	}
	slices.SortFunc(l, event.Order)
	for i, a := range l {
		for j, b := range l {
			got := event.Order(a, b)
			if got != -event.Order(b, a) || (got == 0) != (a == b) || (got < 0) != (i < j) {
				t.Fatalf("Order(%+v, %+v) = %d, the other way %d", a, b, got, event.Order(b, a))
			}
		}
	}
}
