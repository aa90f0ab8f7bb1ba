package length

import (
	"pendulum/api"
	"pendulum/decode"
	"pendulum/regs"
	"pendulum/step"
)

const size = 1 << 16

// Flat is registers and a memory without banks.
type Flat struct {
	made  bool
	r     api.Regs
	bytes [size]byte
}

// New answers a flat machine with b in its memory, from at on.
func New(r api.Regs, at uint16, b []byte) (*Flat, api.Errno) {
	if err := regs.Check(r); err != api.OK {
		return nil, err
	}
	if len(b) > size {
		return nil, api.ErrArg
	}
	f := &Flat{made: true, r: r}
	fill(&f.bytes, at, b)
	return f, api.OK
}

// Step does an instruction, and answers its requests.
func (f *Flat) Step() ([]api.Req, api.Errno) {
	if !f.isMade() {
		return nil, api.ErrNil
	}
	peek := f.bytes[f.r.PC+1]
	return f.run(0, func(got []byte) (api.Req, api.Regs, bool, api.Errno) {
		return step.Next(f.r, got, peek)
	})
}

// Interrupt does an interrupt, if there may be one, and answers its requests.
func (f *Flat) Interrupt(v byte) ([]api.Req, api.Errno) {
	if !f.isMade() {
		return nil, api.ErrNil
	}
	if !step.May(f.r) {
		return nil, api.OK
	}
	return f.run(v, func(got []byte) (api.Req, api.Regs, bool, api.Errno) {
		return step.Accept(f.r, got)
	})
}

// Regs answers the registers.
func (f *Flat) Regs() api.Regs {
	if !f.isMade() {
		return api.Regs{}
	}
	return f.r
}

// Byte answers the byte that stands at a place.
func (f *Flat) Byte(at uint16) byte {
	if !f.isMade() {
		return 0
	}
	return f.bytes[at]
}

// Poke lets v stand at a place.
func (f *Flat) Poke(at uint16, v byte) api.Errno {
	if !f.isMade() {
		return api.ErrNil
	}
	f.bytes[at] = v
	return api.OK
}

// Ins answers the instruction that stands at PC.
func (f *Flat) Ins() (api.Ins, api.Errno) {
	if !f.isMade() {
		return api.Ins{}, api.ErrNil
	}
	const longest = 4
	return decode.Of(taken(&f.bytes, f.r.PC, longest))
}

func (f *Flat) isMade() bool {
	return f != nil && f.made
}

// run goes through a row till its end, and answers its requests; v is what an
// interrupt finds on the bus.
func (f *Flat) run(v byte, next func(got []byte) (api.Req, api.Regs, bool, api.Errno)) ([]api.Req, api.Errno) {
	var asked []api.Req
	var got []byte
	for {
		q, r, done, err := next(got)
		if err != api.OK {
			return nil, err
		}
		if done {
			f.r = r
			return asked, api.OK
		}
		asked = append(asked, q)
		got = append(got, back(&f.bytes, q, v))
	}
}
