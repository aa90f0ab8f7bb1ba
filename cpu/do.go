package cpu

import (
	"pendulum/api"
	"pendulum/contend"
	"pendulum/port"
)

// nobody is the byte on the bus when nobody puts another one there.
const nobody = 255

// deed is what is done, and what comes back to the row.
type deed struct {
	api.Deed
	back byte
}

// Next answers the request that comes next, and when it happens.
func (c *Cpu) Next() (q api.Req, at int64, ok bool) {
	if !c.isMade() {
		return api.Req{}, 0, false
	}
	at, _, e := c.times()
	if e != api.OK {
		return api.Req{}, 0, false
	}
	return c.row.request, at, true
}

// Do does the request that comes next; in is what a port's comes back with.
func (c *Cpu) Do(in byte) (api.Deed, api.Errno) {
	if !c.isMade() {
		return api.Deed{}, api.ErrNil
	}
	at, end, e := c.times()
	if e != api.OK {
		return api.Deed{}, api.ErrState
	}
	d := c.done(c.row.request, in)
	if d.Is {
		d.Event.Time, d.Event.Chip, d.Event.Seq = at, api.ChipCpu, c.seq
		c.seq++
	}
	c.clock = end
	c.row.got = append(c.row.got, d.back)
	c.goOn()
	return d.Deed, api.OK
}

// Run does the requests that happen below to, and answers their events.
func (c *Cpu) Run(to int64, in func(port uint16, at int64) byte) []api.Event {
	var l []api.Event
	for {
		q, at, ok := c.Next()
		if !ok || at >= to {
			return l
		}
		v := byte(nobody)
		if q.Kind == api.ReqIn {
			v = comesIn(in, q.Addr, at)
		}
		if d, _ := c.Do(v); d.Is {
			l = append(l, d.Event)
		}
	}
}

// times answers when the request that comes next happens and ends.
func (c *Cpu) times() (at, end int64, e api.Errno) {
	bank, _ := c.mem.Where(c.row.request.Addr)
	return contend.Request(c.screen, c.row.request, contend.Slow(c.slow, bank), c.clock)
}

// done does a request, but for what hangs on its time.
func (c *Cpu) done(q api.Req, in byte) (d deed) {
	d.Is = true
	d.Event.A = int(q.Addr)
	switch q.Kind {
	case api.ReqFetch:
		d.Event.Kind, d.back = api.EvFetch, c.mem.Byte(q.Addr)
	case api.ReqRead:
		d.Event.Kind, d.back = api.EvRead, c.mem.Byte(q.Addr)
	case api.ReqIn:
		d.Event.Kind, d.back = api.EvIn, in
	case api.ReqAck:
		d.Event.Kind, d.back = api.EvAck, nobody
	case api.ReqWrite:
		d.Bank, d.Place, d.Byte = c.write(q.Addr, q.Value)
		d.Event.Kind, d.Event.B = api.EvWrite, int(q.Value)
		return d
	case api.ReqOut:
		d.Told = c.tell(q.Addr, q.Value)
		d.Event.Kind, d.Event.B = api.EvOut, int(q.Value)
		return d
	default:
		return deed{}
	}
	d.Event.B = int(d.back)
	return d
}

// write puts v to memory, and answers where, if it is a bank that the picture may
// be of.
func (c *Cpu) write(at uint16, v byte) (bank, place int, b byte) {
	bank, place = c.mem.Where(at)
	if !c.mem.Put(at, v) || bank != 5 && bank != 7 {
		return 0, 0, 0
	}
	return bank, place, v
}

// tell tells the memory what goes to its ports, and answers whether that was A.
func (c *Cpu) tell(at uint16, v byte) (a bool) {
	for _, class := range port.Written(at) {
		switch class {
		case api.PortPage:
			a = c.mem.Tell(false, v) == api.OK
		case api.PortMore:
			c.mem.Tell(true, v)
		}
	}
	return a
}

// comesIn answers what in tells of a port: one that isn't there, or panics, tells
// nothing.
func comesIn(in func(port uint16, at int64) byte, port uint16, at int64) (v byte) {
	v = nobody
	if in == nil {
		return v
	}
	defer func() { _ = recover() }()
	return in(port, at)
}
