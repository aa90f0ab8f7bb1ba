package tstate_test

import (
	"math"
	"testing"

	"pendulum/api"
	"pendulum/tstate"
)

// P2.2
func TestPulse(t *testing.T) {
	for _, x := range []struct {
		s    api.Screen
		t    int64
		want bool
	}{
		{classic, 0, true},
		{classic, 35, true},
		{classic, 36, false},
		{classic, 70907, false},
		{classic, 70908, true},
		{classic, 70943, true},
		{classic, 70944, false},
		{classic, -1, false},
		{classic, -70908, false},
		{classic, math.MinInt64, false},
		{classic, math.MaxInt64, false},
		{small, 4, true},
		{small, 5, false},
		{small, 159, false},
		{small, -156, false},
		{shortest, 7, true},
		{shortest, -1, false},
		{shortest, api.MaxTime, true},
		{shortest, api.MaxTime + 1, false},
		{shortest, math.MaxInt64, false},
	} {
		if got := tstate.Pulse(x.s, x.t); got != x.want {
			t.Errorf("Pulse %d: %t", x.t, got)
		}
	}
}

// P2.2
func TestPulses(t *testing.T) {
	for _, x := range []struct {
		s        api.Screen
		from, to int64
		want     int64
	}{
		{classic, 0, 100, 36},
		{classic, 30, 70910, 8},
		{classic, 0, 0, 0},
		{classic, 0, 1, 1},
		{classic, 35, 36, 1},
		{classic, 36, 70908, 0},
		{classic, 36, 70909, 1},
		{classic, 0, 70908, 36},
		{classic, 0, 141816, 72},
		{classic, -100, 0, 0},
		{classic, -100, 1, 1},
		{classic, -100, -50, 0},
		{classic, 100, 0, 0},
		{classic, 70910, 30, 0},
		{classic, math.MaxInt64, math.MinInt64, 0},
		{classic, math.MinInt64, math.MinInt64, 0},
		{classic, math.MaxInt64, math.MaxInt64, 0},
		{classic, math.MinInt64, math.MaxInt64, 15506172 * 36},
		{classic, math.MinInt64, 36, 36},
		{shortest, 0, api.MaxTime, api.MaxTime},
		{shortest, 0, api.MaxTime + 1, api.MaxTime + 1},
		{shortest, math.MinInt64, math.MaxInt64, api.MaxTime + 1},
		{shortest, api.MaxTime, math.MaxInt64, 1},
		{shortest, api.MaxTime + 1, math.MaxInt64, 0},
		{shortest, api.MaxTime - 1, api.MaxTime, 1},
	} {
		if got := tstate.Pulses(x.s, x.from, x.to); got != x.want {
			t.Errorf("Pulses %d to %d: %d, want %d", x.from, x.to, got, x.want)
		}
	}
}

// P2.2: what Pulses counts is what Pulse answers yes to.
func TestPulsesCountsEachPulse(t *testing.T) {
	for _, s := range []api.Screen{small, shortest} {
		for _, base := range []int64{-5, 155, api.MaxTime - 170} {
			for from := base; from < base+20; from++ {
				want := int64(0)
				for to := from; to < from+340; to++ {
					if got := tstate.Pulses(s, from, to); got != want {
						t.Fatalf("Pulses %d to %d: %d, want %d", from, to, got, want)
					}
					if tstate.Pulse(s, to) {
						want++
					}
				}
			}
		}
	}
}

// P2.3
func TestPulsesSideBySideAddUp(t *testing.T) {
	cuts := []int64{math.MinInt64, -70908, -1, 0, 1, 35, 36, 37, 70907, 70908, 70920, 70944, 141816, 1 << 30,
		api.MaxTime - 1, api.MaxTime, api.MaxTime + 1, math.MaxInt64}
	for _, s := range mayBe {
		for i, from := range cuts {
			for j, middle := range cuts[i:] {
				for _, to := range cuts[i+j:] {
					whole := tstate.Pulses(s, from, to)
					if one, two := tstate.Pulses(s, from, middle), tstate.Pulses(s, middle, to); one+two != whole {
						t.Fatalf("%d to %d to %d: %d and %d, not %d", from, middle, to, one, two, whole)
					}
				}
			}
		}
	}
}
