package merge

import (
	"pendulum/api"
	"pendulum/event"
	"pendulum/octet"
)

// Bytes answers how many events a history has, and the bytes of each as a block.
func Bytes(l []api.Event) ([]byte, api.Errno) {
	if err := Check(l); err != api.OK {
		return nil, err
	}
	b := octet.Number(nil, uint64(len(l)))
	for _, e := range l {
		// octet copies what it puts to: put to b, each event would cost all of b.
		b = append(b, block(e)...)
	}
	return b, api.OK
}

// Read answers the history whose bytes b are.
func Read(b []byte) ([]api.Event, api.Errno) {
	r := octet.New(b)
	var l []api.Event
	for range r.Count(api.MaxHistory) {
		// Behind a reader's error the block has no bytes, which are no event's.
		e, err := event.Read(r.Block())
		if err != api.OK {
			return nil, api.ErrBad
		}
		l = append(l, e)
	}
	if r.End() != api.OK || Check(l) != api.OK {
		return nil, api.ErrBad
	}
	return l, api.OK
}

// block is for events of a history alone: they may be, and their bytes are few,
// so that there is no error.
func block(e api.Event) []byte {
	p, _ := event.Bytes(e)
	b, _ := octet.Block(nil, p)
	return b
}
