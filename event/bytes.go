package event

import (
	"pendulum/api"
	"pendulum/octet"
)

// Bytes answers the numbers of an event, one behind the other. The chip is not
// among them: the kind tells it.
func Bytes(e api.Event) ([]byte, api.Errno) {
	if err := Check(e); err != api.OK {
		return nil, err
	}
	b := octet.Number(nil, uint64(e.Kind))
	b = octet.Number(b, uint64(e.Time))
	b = octet.Number(b, uint64(e.Seq))
	b = octet.Number(b, uint64(e.A))
	b = octet.Number(b, uint64(e.B))
	return b, api.OK
}

// Read answers the event whose bytes b are.
func Read(b []byte) (api.Event, api.Errno) {
	r := octet.New(b)
	var e api.Event
	e.Kind = r.Count(api.EvStatus)
	e.Chip = Chip(e.Kind)
	// A number too great for an int64 comes out below 0, so that Check refuses it.
	e.Time = int64(r.Number())
	e.Seq = int64(r.Number())
	e.A = r.Count(mostA)
	e.B = r.Count(mostB)
	if r.End() != api.OK || Check(e) != api.OK {
		return api.Event{}, api.ErrBad
	}
	return e, api.OK
}
