package ula_test

import (
	"math"
	"slices"
	"testing"

	"pendulum/api"
	"pendulum/ula"
)

// at answers a chip like u, with another clock.
func at(t *testing.T, u *ula.Ula, clock int64) *ula.Ula {
	t.Helper()
	r, e := ula.Read(told(t, u, func(p *parts) { p.numbers[clockAt] = uint64(clock) }))
	if e != api.OK {
		t.Fatalf("Read: error %d", e)
	}
	return r
}

// P19.2: two pairs of bytes, the border around them, and what floats.
func TestTicksOfALine(t *testing.T) {
	u := of(t, small,
		api.Patch{Bank: 5, At: 0, Bytes: []byte{1, 2, 3, 4}}, api.Patch{Bank: 5, At: 6144, Bytes: []byte{11, 12, 13, 14}},
		api.Patch{Bank: 7, At: 0, Bytes: []byte{99, 99, 99, 99}})
	u = at(t, u, 32)
	const bank = 5 * 16384
	want := map[int64]api.Event{
		32: did(32, 0, api.EvBorder, 0, 7),
		35: did(35, 1, api.EvPixel, bank, 1),
		36: did(36, 2, api.EvAttr, bank+6144, 11),
		37: did(37, 3, api.EvPixel, bank+1, 2),
		38: did(38, 4, api.EvAttr, bank+6145, 12),
		43: did(43, 5, api.EvPixel, bank+2, 3),
		44: did(44, 6, api.EvAttr, bank+6146, 13),
		45: did(45, 7, api.EvPixel, bank+3, 4),
		46: did(46, 8, api.EvAttr, bank+6147, 14),
		56: did(56, 9, api.EvBorder, 24, 7),
		64: did(64, 10, api.EvBorder, 0, 7),
		67: did(67, 11, api.EvPixel, bank+256, 0),
	}
	for n := int64(32); n < 68; n++ {
		if u.Clock() != n {
			t.Fatalf("Clock() = %d, want %d", u.Clock(), n)
		}
		var l []api.Event
		floats := byte(255)
		if x, is := want[n]; is {
			l = append(l, x)
			if x.Kind != api.EvBorder {
				floats = byte(x.B)
			}
		}
		check(t, u.Tick(), l...)
		checkIn(t, u, api.PortNone, 0, floats)
	}
	if u.Seq() != 12 {
		t.Errorf("Seq() = %d", u.Seq())
	}
}

// P19.2: the picture's bank is 7, if it is the shadow's, and it may change between
// a byte and its attribute.
func TestTicksOfBothBanks(t *testing.T) {
	l := []api.Patch{{Bank: 5, At: 6144, Bytes: []byte{11}}, {Bank: 7, Bytes: []byte{21}}}
	u := at(t, made(t, api.UlaSetup{Screen: small, Patches: l, Shadow: true}), 35)
	check(t, u.Tick(), did(35, 0, api.EvPixel, 7*16384, 21))
	checkIn(t, u, api.PortNone, 0, 21)
	ok(t, u.Out(api.PortPage, 0xf7))
	checkIn(t, u, api.PortNone, 0, 21)
	check(t, u.Tick(), did(36, 1, api.EvAttr, 5*16384+6144, 11))
	ok(t, u.Out(api.PortPage, 8))
	check(t, u.Tick(), did(37, 2, api.EvPixel, 7*16384+1, 0))
	checkIn(t, u, api.PortNone, 0, 0)
}

// P19.2: a byte is fetched as it is at that T-state, and floats as it was then.
func TestPutAheadOfTheBeam(t *testing.T) {
	u := at(t, of(t, small, api.Patch{Bank: 5, Bytes: []byte{1}}), 35)
	ok(t, u.Put(5, 0, 2))
	ok(t, u.Put(7, 0, 3))
	check(t, u.Tick(), did(35, 0, api.EvPixel, 5*16384, 2))
	ok(t, u.Put(5, 0, 4))
	ok(t, u.Put(5, 6144, 5))
	checkIn(t, u, api.PortNone, 0, 2)
	check(t, u.Tick(), did(36, 1, api.EvAttr, 5*16384+6144, 5))
	u = at(t, u, 35+18*32)
	check(t, u.Tick(), did(611, 2, api.EvPixel, 5*16384, 4))
}

// P19.2: bits that are not those told are told ahead of all, once.
func TestBeep(t *testing.T) {
	u := of(t, small)
	ok(t, u.Out(api.PortUla, 0x1d))
	check(t, u.Tick(), did(0, 0, api.EvBeep, 0, 3), did(0, 1, api.EvBorder, 0, 5))
	check(t, u.Tick())
	ok(t, u.Out(api.PortUla, 0x08))
	ok(t, u.Out(api.PortUla, 0x10))
	check(t, u.Tick(), did(2, 2, api.EvBeep, 0, 2))
	ok(t, u.Out(api.PortUla, 0x08))
	ok(t, u.Out(api.PortUla, 0xf5))
	check(t, u.Tick())
	ok(t, u.Out(api.PortUla, 0xe7))
	u = at(t, u, 35)
	check(t, u.Tick(), did(35, 3, api.EvBeep, 0, 0), did(35, 4, api.EvPixel, 5*16384, 0))
	check(t, u.Tick(), did(36, 5, api.EvAttr, 5*16384+6144, 0))
	if u.Seq() != 6 {
		t.Errorf("Seq() = %d", u.Seq())
	}
}

// P19.2: the border is told as it is at that T-state.
func TestBorderOfEachColour(t *testing.T) {
	u := of(t, blank)
	for colour := range 8 {
		ok(t, u.Out(api.PortUla, byte(colour|0xe0)))
		check(t, u.Run(int64(8*colour+8)), did(int64(8*colour), int64(colour), api.EvBorder, 8*colour%40, colour))
	}
}

// P19.2: at MaxTime nothing, and the clock stays.
func TestTheEndOfAllTimes(t *testing.T) {
	u := at(t, of(t, least), api.MaxTime-1)
	check(t, u.Tick())
	if u.Clock() != api.MaxTime {
		t.Fatalf("Clock() = %d", u.Clock())
	}
	ok(t, u.Out(api.PortUla, 0x10))
	before := u.Bytes()
	for range 3 {
		check(t, u.Tick())
		check(t, u.Run(math.MaxInt64))
	}
	if u.Clock() != api.MaxTime || u.Seq() != 0 || !slices.Equal(u.Bytes(), before) {
		t.Errorf("it goes on to %d", u.Clock())
	}
	u = at(t, of(t, least), api.MaxTime-9)
	check(t, u.Run(math.MaxInt64), did(api.MaxTime-8, 0, api.EvBorder, 0, 7))
	if u.Clock() != api.MaxTime {
		t.Errorf("Clock() = %d", u.Clock())
	}
	u = at(t, of(t, least), api.MaxTime-9)
	check(t, u.Run(api.MaxTime), did(api.MaxTime-8, 0, api.EvBorder, 0, 7))
	if u.Clock() != api.MaxTime {
		t.Errorf("Clock() = %d", u.Clock())
	}
}

// P19.2: Run goes as long as the clock is below to.
func TestRunTo(t *testing.T) {
	u := of(t, least)
	for _, x := range []struct {
		to, clock int64
		want      []api.Event
	}{
		{math.MinInt64, 0, nil},
		{-1, 0, nil},
		{0, 0, nil},
		{1, 1, []api.Event{did(0, 0, api.EvBorder, 0, 7)}},
		{1, 1, nil},
		{0, 1, nil},
		{-5, 1, nil},
		{8, 8, nil},
		{9, 9, []api.Event{did(8, 1, api.EvBorder, 0, 7)}},
		{25, 25, []api.Event{did(16, 2, api.EvBorder, 0, 7), did(24, 3, api.EvBorder, 0, 7)}},
		{9, 25, nil},
	} {
		check(t, u.Run(x.to), x.want...)
		if u.Clock() != x.clock || u.Seq() != (x.clock+7)/8 {
			t.Errorf("behind Run(%d) Clock() = %d, Seq() = %d", x.to, u.Clock(), u.Seq())
		}
	}
}

// P19.2, rule 3: events are new memory.
func TestEventsAreNewMemory(t *testing.T) {
	u := of(t, small)
	ok(t, u.Out(api.PortUla, 8))
	one := u.Tick()
	two := u.Run(100)
	kept := slices.Clone(two)
	clear(one[:cap(one)])
	ok(t, u.Out(api.PortUla, 0))
	three := u.Tick()
	clear(three[:cap(three)])
	u.Run(300)
	if !slices.Equal(two, kept) {
		t.Error("two answers share something")
	}
}

// P19.2: all T-states of some frames, against the model.
func TestTicksOfFrames(t *testing.T) {
	for seed, s := range screens {
		r := chance(seed)
		u, m := r.both(t, api.UlaSetup{Screen: s, Patches: r.patches(), Shadow: seed%2 == 1})
		for range 2*s.Lines*s.Columns + 20 {
			checkTick(t, u, m)
		}
	}
}
