package merge

import (
	"iter"
	"slices"

	"pendulum/api"
	"pendulum/event"
)

// Part answers the events of one chip, as they stand.
func Part(l []api.Event, chip int) []api.Event {
	return collect(those(l, func(e api.Event) bool { return e.Chip == chip }))
}

// Cut answers the events ahead of a time, and the others, as they stand. The
// list may be out of order, so that each event is asked.
func Cut(l []api.Event, t int64) (before, behind []api.Event) {
	before = collect(those(l, func(e api.Event) bool { return e.Time < t }))
	behind = collect(those(l, func(e api.Event) bool { return e.Time >= t }))
	return before, behind
}

// Differ answers the first place at which two lists are not the same, -1 if
// there is none.
func Differ(a, b []api.Event) int {
	both := min(len(a), len(b))
	for i := range both {
		if a[i] != b[i] {
			return i
		}
	}
	if len(a) == len(b) {
		return -1
	}
	return both
}

// Count answers how many events there are of each kind.
func Count(l []api.Event) [13]int {
	var count [13]int
	for _, e := range l {
		if event.Chip(e.Kind) != 0 {
			count[e.Kind]++
		}
	}
	return count
}

// Number answers the same events, each with how many of its chip stand ahead of
// it. Chips that are none are counted too, each for itself.
func Number(l []api.Event) []api.Event {
	numbered := slices.Clone(l)
	ahead := map[int]int64{}
	for i, e := range l {
		numbered[i].Seq = ahead[e.Chip]
		ahead[e.Chip]++
	}
	return numbered
}

// those goes over the events that are wanted, as they stand.
func those(l []api.Event, wanted func(api.Event) bool) iter.Seq[api.Event] {
	return func(yield func(api.Event) bool) {
		for _, e := range l {
			if wanted(e) && !yield(e) {
				return
			}
		}
	}
}

func collect(events iter.Seq[api.Event]) []api.Event {
	var l []api.Event
	for e := range events {
		l = append(l, e)
	}
	return l
}
