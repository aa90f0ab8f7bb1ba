package ula_test

import (
	"bytes"
	"slices"
	"testing"

	"pendulum/api"
	"pendulum/event"
	"pendulum/raster"
)

// P19.4: Run in steps is Run at once, and Tick after Tick.
func TestRunInSteps(t *testing.T) {
	for seed, s := range screens {
		r := chance(seed + 50)
		setup := api.UlaSetup{Screen: s, Patches: r.patches(), Shadow: seed%2 == 0}
		once, steps, single := made(t, setup), made(t, setup), made(t, setup)
		to := int64(s.Lines*s.Columns) + 1000
		l := once.Run(to)
		var k, j []api.Event
		for at := int64(0); at < to; at += int64(r.next()) {
			k = append(k, steps.Run(at)...)
		}
		k = append(k, steps.Run(to)...)
		for range to {
			j = append(j, single.Tick()...)
		}
		if !slices.Equal(k, l) || !slices.Equal(j, l) {
			t.Errorf("%+v: %d, %d and %d events", s, len(l), len(k), len(j))
		}
		if b := once.Bytes(); !bytes.Equal(b, steps.Bytes()) || !bytes.Equal(b, single.Bytes()) {
			t.Errorf("%+v: they are unlike behind it", s)
		}
	}
}

// P19.4, P19.2: its events are such, numbered, and in order.
func TestEventsMayBe(t *testing.T) {
	for _, s := range screens {
		u := of(t, s)
		var l []api.Event
		for u.Clock() < int64(s.Lines*s.Columns)+500 {
			ok(t, u.Out(api.PortUla, byte(u.Clock())))
			l = append(l, u.Run(u.Clock()+13)...)
		}
		for n, x := range l {
			if event.Check(x) != api.OK || x.Seq != int64(n) || n > 0 && event.Order(l[n-1], x) >= 0 {
				t.Fatalf("%+v: event %d is %+v", s, n, x)
			}
		}
	}
}

// P19.4: in each frame each byte of the picture is fetched once, its attribute one
// T-state later, from the picture's bank.
func TestEachByteIsFetchedOnce(t *testing.T) {
	for n, s := range screens {
		bank := 5 + n%2*2
		u := made(t, api.UlaSetup{Screen: s, Shadow: bank == 7})
		length := int64(s.Lines * s.Columns)
		for frame := range int64(3) {
			seen := map[int]int{}
			var borders, attrs int
			var last api.Event
			for _, x := range u.Run((frame + 1) * length) {
				switch x.Kind {
				case api.EvPixel:
					seen[x.A-bank*api.BankSize]++
				case api.EvAttr:
					attrs++
					a, b, _, _ := raster.Where(last.A - bank*api.BankSize)
					if at, _ := raster.Attr(a, b); last.Kind != api.EvPixel || last.Time != x.Time-1 || x.A != bank*api.BankSize+at {
						t.Fatalf("%+v: %+v stands behind %+v", s, x, last)
					}
				case api.EvBorder:
					borders++
				}
				last = x
			}
			for y := range s.Rows {
				for x := range s.Wide {
					if at, _ := raster.Pixel(x, y); seen[at] != 1 {
						t.Fatalf("%+v: the byte %d, %d is fetched %d times", s, x, y, seen[at])
					}
				}
			}
			if pixels, _, all := raster.Count(s); len(seen) != pixels || attrs != pixels || borders != all {
				t.Fatalf("%+v: %d bytes, %d attributes, %d borders", s, len(seen), attrs, borders)
			}
		}
	}
}

// P19.4: touches later than a time count for nothing up to it.
func TestLaterTouches(t *testing.T) {
	r := chance(9)
	l := r.touches(0, 200)
	until := l[len(l)/2].Time
	n := slices.IndexFunc(l, func(x api.Touch) bool { return x.Time > until })
	all := made(t, api.UlaSetup{Screen: small, Touches: l})
	some := made(t, api.UlaSetup{Screen: small, Touches: l[:n]})
	late := made(t, api.UlaSetup{Screen: small})
	for at := range until + 1 {
		next := slices.IndexFunc(l, func(x api.Touch) bool { return x.Time > at })
		ok(t, late.Touch(l[:next]))
		for high := range 256 {
			v := all.In(api.PortUla, byte(high))
			checkIn(t, some, api.PortUla, byte(high), v)
			checkIn(t, late, api.PortUla, byte(high), v)
		}
		k := all.Tick()
		check(t, some.Tick(), k...)
		check(t, late.Tick(), k...)
	}
}
