package cpu

import (
	"bytes"
	"slices"

	"pendulum/api"
	"pendulum/bank"
	"pendulum/octet"
	"pendulum/regs"
	"pendulum/tstate"
)

// Bytes answers the bytes of the processor.
func (c *Cpu) Bytes() []byte {
	if !c.isMade() {
		return nil
	}
	// What a processor is made of may be, so that there are no errors.
	screen, _ := tstate.Bytes(c.screen)
	registers, _ := regs.Bytes(c.row.regs)
	return slices.Concat(
		block(screen), number(uint64(c.slow)), block(registers), blocks(c.mem.Bytes()),
		number(uint64(c.clock)), number(uint64(c.seq)), c.row.bytes(),
	)
}

// Read answers the processor whose bytes b are.
func Read(b []byte) (*Cpu, api.Errno) {
	c, e := taken(b)
	if e != api.OK || c.clock < 0 || c.clock > api.MaxTime || c.seq < 0 || c.seq > api.MaxSeq {
		return nil, api.ErrBad
	}
	next := c.way()
	q, _, done, e := next()
	if e != api.OK || done {
		return nil, api.ErrBad
	}
	c.row.request = q
	// One processor's bytes are one: a memory in other blocks shows here.
	if !bytes.Equal(c.Bytes(), b) {
		return nil, api.ErrBad
	}
	return c, api.OK
}

// taken answers the processor that b tells, whether it may be or not; an error, if
// it has no parts.
func taken(b []byte) (*Cpu, api.Errno) {
	r := octet.New(b)
	c := &Cpu{made: true}
	var e [3]api.Errno
	c.screen, e[0] = tstate.Read(r.Block())
	c.slow = byte(r.Count(0xff))
	c.row.regs, e[1] = regs.Read(r.Block())
	c.mem, e[2] = bank.Read(joined(r))
	// Numbers too great for an int64 come out below 0.
	c.clock = int64(r.Number())
	c.seq = int64(r.Number())
	c.row.interrupt = r.Count(1) == 1
	c.row.got = r.Block()
	if r.End() != api.OK || e != [3]api.Errno{} {
		return nil, api.ErrBad
	}
	return c, api.OK
}

func (w *row) bytes() []byte {
	interrupt := uint64(0)
	if w.interrupt {
		interrupt = 1
	}
	return slices.Concat(number(interrupt), block(w.got))
}

func number(x uint64) []byte {
	return octet.Number(nil, x)
}

// block is for what is short enough for a block, so that there is no error.
func block(p []byte) []byte {
	b, _ := octet.Block(nil, p)
	return b
}

// blocks answers in how many blocks p is told, and these.
func blocks(p []byte) []byte {
	count := uint64(0)
	var b []byte
	for part := range slices.Chunk(p, api.MaxBlock) {
		b = append(b, block(part)...)
		count++
	}
	return slices.Concat(number(count), b)
}

// joined reads blocks, and answers what they tell.
func joined(r *octet.Reader) []byte {
	var p []byte
	for range r.Count(r.Left()) { // each block is a byte at least
		p = append(p, r.Block()...)
	}
	return p
}
