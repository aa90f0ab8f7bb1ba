package step

import (
	"pendulum/alu"
	"pendulum/decode"
	"pendulum/regs"
	"pendulum/shift"
	"pendulum/wide"
)

// low does an operation of SetMain's x 0.
func (w *row) low(op int) {
	_, y, z, p, q := decode.Parts(op)
operation:
	switch z {
	case 0:
		is := true
		switch y {
		case 0:
			break operation
		case 1:
			w.r = regs.Swap(w.r, 0)
			break operation
		case 2:
			w.idle(1)
			w.r.B--
			is = w.r.B != 0
		case 3:
		default:
			is = regs.Cond(w.r.F, y-4)
		}
		w.jump(is)
	case 1:
		if q == 0 {
			w.putPair(p, w.operandWord())
			break operation
		}
		w.addPair(p)
	case 2:
		w.move(y)
	case 3:
		w.idle(2)
		w.shiftPair(p, 1-2*uint16(q))
	case 4:
		w.change(y, alu.Inc)
	case 5:
		w.change(y, alu.Dec)
	case 6:
		w.storeOperand(y)
	default:
		w.accumulator(y)
	}
}

// jump reads how far, and goes there, if it is so.
func (w *row) jump(is bool) {
	by := w.operand()
	if !is {
		return
	}
	w.idle(5)
	w.goTo(wide.Plus(w.r.PC, by))
}

func (w *row) goTo(to uint16) {
	w.r.PC, w.r.WZ = to, to
}

func (w *row) addPair(p int) {
	w.idle(7)
	hl := w.pair(pairHL)
	sum, f := wide.Add(hl, w.pair(p), w.r.F)
	w.r.WZ, w.r.F = hl+1, f
	w.putPair(pairHL, sum)
}

// move moves A or HL to memory or back, by a pair or by the word that follows.
func (w *row) move(y int) {
	switch y {
	case 0:
		w.storeA(w.pair(pairBC))
	case 1:
		w.loadA(w.pair(pairBC))
	case 2:
		w.storeA(w.pair(pairDE))
	case 3:
		w.loadA(w.pair(pairDE))
	case 4:
		w.storePair(pairHL)
	case 5:
		w.loadPair(pairHL)
	case 6:
		w.storeA(w.operandWord())
	default:
		w.loadA(w.operandWord())
	}
}

func (w *row) storeA(at uint16) {
	w.write(at, w.r.A)
	w.wzBehindA(at)
}

func (w *row) loadA(at uint16) {
	w.r.A = w.read(at)
	w.r.WZ = at + 1
}

// wzBehindA lets WZ be what it is behind A went out: its high byte is A.
func (w *row) wzBehindA(at uint16) {
	_, low := wide.Split(at + 1)
	w.r.WZ = wide.Pair(w.r.A, low)
}

func (w *row) storePair(p int) {
	at := w.operandWord()
	w.writeWord(at, w.pair(p))
	w.r.WZ = at + 1
}

func (w *row) loadPair(p int) {
	at := w.operandWord()
	w.putPair(p, w.readWord(at))
	w.r.WZ = at + 1
}

// storeOperand lets the byte of a code be the one that follows. By an index
// that is read ahead of the idle T-states, which are fewer then.
func (w *row) storeOperand(code int) {
	switch {
	case code != codeMemory:
		w.put(code, w.operand())
	case w.index == 0:
		w.write(w.pair(pairHL), w.operand())
	default:
		w.reach(w.operand())
		v := w.operand()
		w.idle(2)
		w.write(w.r.WZ, v)
	}
}

func (w *row) accumulator(y int) {
	a, f := &w.r.A, &w.r.F
	switch y {
	case 4:
		*a, *f = shift.Daa(*a, *f)
	case 5:
		*a, *f = shift.Cpl(*a, *f)
	case 6:
		*f = shift.Scf(*a, *f)
	case 7:
		*f = shift.Ccf(*a, *f)
	default:
		*a, *f = shift.Turn(y, *a, *f)
	}
}
