package ula

import (
	"pendulum/api"
	"pendulum/raster"
)

// Tick does what is done at the clock's time, and answers its events.
func (u *Ula) Tick() (l []api.Event) {
	if !u.isMade() || u.clock >= api.MaxTime {
		return nil
	}
	defer func() { u.end(l) }()
	if u.bits != u.told {
		u.told = u.bits
		l = append(l, api.Event{Kind: api.EvBeep, B: int(u.bits)})
	}
	if e, is := u.beam(); is {
		l = append(l, e)
	}
	return l
}

// Run does all Ticks below to, and answers their events.
func (u *Ula) Run(to int64) []api.Event {
	if !u.isMade() {
		return nil
	}
	var l []api.Event
	for u.clock < min(to, api.MaxTime) {
		l = append(l, u.Tick()...)
	}
	return l
}

// end numbers the events of a Tick, and ends it.
func (u *Ula) end(l []api.Event) {
	for n := range l {
		l[n].Time, l[n].Chip, l[n].Seq = u.clock, api.ChipUla, u.seq
		u.seq++
	}
	u.clock++
}

// beam does what the beam does at the clock's time, and answers its event, if it
// has one.
func (u *Ula) beam() (api.Event, bool) {
	u.floats = nobody
	// A chip's screen and clock may be, and so may the beam's X and Y, so that
	// there are no errors.
	b, _ := raster.At(u.screen, u.clock)
	switch b.Do {
	case api.BeamPixel:
		place, _ := raster.Pixel(b.X, b.Y)
		return u.fetched(api.EvPixel, place), true
	case api.BeamAttr:
		place, _ := raster.Attr(b.X, b.Y)
		return u.fetched(api.EvAttr, place), true
	case api.BeamBorder:
		return api.Event{Kind: api.EvBorder, A: b.X, B: int(u.border)}, true
	}
	return api.Event{}, false
}

// fetched fetches a byte of the picture's bank, which floats then.
func (u *Ula) fetched(kind, place int) api.Event {
	number := u.picture()
	c, _ := u.bank(number)
	u.floats = c[place]
	return api.Event{Kind: kind, A: number*api.BankSize + place, B: int(u.floats)}
}
