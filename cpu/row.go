package cpu

import (
	"slices"

	"pendulum/api"
	"pendulum/step"
	"pendulum/tstate"
)

// row is the requests of an instruction or an interrupt, as far as they are done.
type row struct {
	regs      api.Regs // at its beginning
	interrupt bool
	got       []byte
	request   api.Req // the one behind what came back
}

// Regs answers the registers at the row's beginning.
func (c *Cpu) Regs() api.Regs {
	if !c.isMade() {
		return api.Regs{}
	}
	return c.row.regs
}

// Row answers whether the row is an interrupt's, and what came back so far.
func (c *Cpu) Row() (interrupt bool, got []byte) {
	if !c.isMade() {
		return false, nil
	}
	return c.row.interrupt, slices.Clone(c.row.got)
}

// begin lets a row begin with these registers.
func (c *Cpu) begin(r api.Regs) {
	c.row = row{regs: r, interrupt: step.May(r) && tstate.Pulse(c.screen, c.clock)}
}

// goOn goes from row to row till one asks for a request.
func (c *Cpu) goOn() {
	for {
		next := c.way()
		q, behind, done, _ := next()
		if !done {
			c.row.request = q
			return
		}
		c.begin(behind)
	}
}

// way answers what tells how the row goes on.
func (c *Cpu) way() func() (api.Req, api.Regs, bool, api.Errno) {
	if c.row.interrupt {
		return c.ofInterrupt
	}
	return c.ofInstruction
}

// ofInstruction looks at the byte behind the first one each time: it counts ahead
// of the second request alone, and till then memory is as at the row's beginning.
func (c *Cpu) ofInstruction() (q api.Req, behind api.Regs, done bool, e api.Errno) {
	return step.Next(c.row.regs, c.row.got, c.mem.Byte(c.row.regs.PC+1))
}

func (c *Cpu) ofInterrupt() (q api.Req, behind api.Regs, done bool, e api.Errno) {
	return step.Accept(c.row.regs, c.row.got)
}
