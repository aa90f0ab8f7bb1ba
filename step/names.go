package step

import (
	"pendulum/regs"
	"pendulum/wide"
)

// The codes of what isn't named as the others are.
const (
	codeMemory = 6
	pairBC     = 0
	pairDE     = 1
	pairHL     = 2
)

func (w *row) get(code int) byte {
	return regs.Get(w.r, w.named, code)
}

func (w *row) put(code int, v byte) {
	w.r = regs.Put(w.r, w.named, code, v)
}

func (w *row) pair(code int) uint16 {
	return regs.Pair(w.r, w.index, code, false)
}

func (w *row) putPair(code int, v uint16) {
	w.r = regs.PutPair(w.r, w.index, code, false, v)
}

// shiftPair lets a pair go on by a number, which may have wrapped round below 0.
func (w *row) shiftPair(code int, by uint16) {
	w.putPair(code, w.pair(code)+by)
}

// reach lets WZ be the index and a Disp, which is where memory is reached.
func (w *row) reach(disp byte) {
	w.r.WZ = wide.Plus(w.pair(pairHL), disp)
}

// address answers where (HL) is; by an index it is reached first.
func (w *row) address() uint16 {
	if w.index == 0 {
		return w.pair(pairHL)
	}
	w.reach(w.operand())
	w.idle(5)
	return w.r.WZ
}

// value answers the byte of a code, be it one in memory.
func (w *row) value(code int) byte {
	if code == codeMemory {
		return w.read(w.address())
	}
	return w.get(code)
}

// store lets v be the byte of a code, be it one in memory.
func (w *row) store(code int, v byte) {
	if code == codeMemory {
		w.write(w.address(), v)
		return
	}
	w.put(code, v)
}

// change lets do change the byte of a code, and the flags.
func (w *row) change(code int, do func(v, f byte) (r, g byte)) {
	if code != codeMemory {
		var v byte
		v, w.r.F = do(w.get(code), w.r.F)
		w.put(code, v)
		return
	}
	at := w.address()
	v := w.read(at)
	w.idle(1)
	v, w.r.F = do(v, w.r.F)
	w.write(at, v)
}
