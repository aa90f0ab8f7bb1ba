package step

import (
	"pendulum/decode"
	"pendulum/regs"
	"pendulum/shift"
	"pendulum/wide"
)

// bits does an operation of SetBits.
func (w *row) bits(op int) {
	_, _, z, _, _ := decode.Parts(op)
	if z == codeMemory {
		w.bitsAt(w.pair(pairHL), op)
		return
	}
	v := w.get(z)
	if n, writes := w.bitsOf(op, v, v); writes {
		w.put(z, n)
	}
}

// both does an operation of SetBoth at WZ, where the index and Disp tell.
func (w *row) both(op int) {
	n, writes := w.bitsAt(w.r.WZ, op)
	if _, _, z, _, _ := decode.Parts(op); writes && z != codeMemory {
		w.r = regs.Put(w.r, 0, z, n)
	}
}

// bitsAt does an operation to what stands in memory, and answers what is
// written there, if anything is.
func (w *row) bitsAt(at uint16, op int) (n byte, writes bool) {
	v := w.read(at)
	w.idle(1)
	high, _ := wide.Split(w.r.WZ)
	if n, writes = w.bitsOf(op, v, high); writes {
		w.write(at, n)
	}
	return n, writes
}

// bitsOf answers what an operation makes of v, and whether it is to be written.
// One that looks at a bit alone takes two flags from another byte.
func (w *row) bitsOf(op int, v, from byte) (n byte, writes bool) {
	switch x, y, _, _, _ := decode.Parts(op); x {
	case 0:
		n, w.r.F = shift.Shift(y, v, w.r.F)
		return n, true
	case 1:
		w.r.F = shift.Bit(y, v, from, w.r.F)
		return 0, false
	case 2:
		return shift.Res(y, v), true
	default:
		return shift.Set(y, v), true
	}
}
