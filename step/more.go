package step

import (
	"pendulum/alu"
	"pendulum/api"
	"pendulum/decode"
	"pendulum/shift"
	"pendulum/wide"
)

// more does an operation of SetMore.
func (w *row) more(op int) {
	x, y, z, p, q := decode.Parts(op)
operation:
	switch x {
	case 1:
		switch z {
		case 0:
			w.takeIn(y)
		case 1:
			w.giveOut(y)
		case 2:
			w.carryPair(p, q)
		case 3:
			if q == 0 {
				w.storePair(p)
				break operation
			}
			w.loadPair(p)
		case 4:
			w.r.A, w.r.F = alu.Neg(w.r.A)
		case 5:
			w.r.IFF1 = w.r.IFF2
			w.back()
		case 6:
			w.r.IM = [4]int{0, 0, 1, 2}[y%4]
		default:
			w.odd(y)
		}
	case 2:
		if y < 4 || z >= 4 {
			break operation
		}
		w.block(y, z)
	}
}

func (w *row) takeIn(y int) {
	port := w.pair(pairBC)
	v := w.in(port)
	w.put(y, v)
	w.r.WZ = port + 1
	w.r.F = alu.Own(v) | parity(v) | w.r.F&api.FlagC
}

func (w *row) giveOut(y int) {
	port := w.pair(pairBC)
	w.out(port, w.get(y))
	w.r.WZ = port + 1
}

// carryPair subtracts a pair from HL, or adds it, with C.
func (w *row) carryPair(p, q int) {
	w.idle(7)
	do := [2]func(a, b uint16, f byte) (r uint16, g byte){wide.Sbc, wide.Adc}[q]
	hl := w.pair(pairHL)
	r, f := do(hl, w.pair(p), w.r.F)
	w.r.WZ, w.r.F = hl+1, f
	w.putPair(pairHL, r)
}

// odd does the operations of z 7.
func (w *row) odd(y int) {
	switch y {
	case 0:
		w.idle(1)
		w.r.I = w.r.A
	case 1:
		w.idle(1)
		w.r.R = w.r.A
	case 2:
		w.idle(1)
		w.look(w.r.I)
	case 3:
		w.idle(1)
		w.look(w.r.R)
	case 4:
		w.roll(shift.Rrd)
	case 5:
		w.roll(shift.Rld)
	}
}

// look lets A be v; P tells whether interrupts were allowed.
func (w *row) look(v byte) {
	w.r.A = v
	w.r.F = alu.Own(v) | w.r.F&api.FlagC
	if w.r.IFF2 {
		w.r.F |= api.FlagP
	}
}

// roll lets four bits go round between A and what stands at HL.
func (w *row) roll(do func(a, m, f byte) (r, n, g byte)) {
	at := w.pair(pairHL)
	m := w.read(at)
	w.idle(4)
	w.r.A, m, w.r.F = do(w.r.A, m, w.r.F)
	w.write(at, m)
	w.r.WZ = at + 1
}

func parity(v byte) byte {
	if alu.Parity(v) {
		return api.FlagP
	}
	return 0
}
