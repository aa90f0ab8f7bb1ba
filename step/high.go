package step

import (
	"pendulum/alu"
	"pendulum/decode"
	"pendulum/regs"
	"pendulum/wide"
)

// high does an operation of SetMain's x 3.
func (w *row) high(op int) {
	_, y, z, p, q := decode.Parts(op)
operation:
	switch z {
	case 0:
		w.idle(1)
		if !regs.Cond(w.r.F, y) {
			break operation
		}
		w.back()
	case 1:
		switch y {
		case 1:
			w.back()
		case 3:
			w.r = regs.Swap(w.r, 1)
		case 5:
			w.r.PC = w.pair(pairHL)
		case 7:
			w.idle(2)
			w.r.SP = w.pair(pairHL)
		default:
			w.r = regs.PutPair(w.r, w.index, p, true, w.pop())
		}
	case 2:
		w.jumpFar(regs.Cond(w.r.F, y))
	case 3:
		w.others(y)
	case 4:
		w.call(regs.Cond(w.r.F, y))
	case 5:
		switch {
		case q == 0:
			w.idle(1)
			w.push(regs.Pair(w.r, w.index, p, true))
		case p == 0:
			w.call(true)
		}
	case 6:
		w.operate(y, w.operand())
	default:
		w.idle(1)
		w.push(w.r.PC)
		w.goTo(uint16(8 * y))
	}
}

// others does the operations of z 3, which have nothing in common.
func (w *row) others(y int) {
	switch y {
	case 0:
		w.jumpFar(true)
	case 2:
		port := wide.Pair(w.r.A, w.operand())
		w.out(port, w.r.A)
		w.wzBehindA(port)
	case 3:
		port := wide.Pair(w.r.A, w.operand())
		w.r.A = w.in(port)
		w.r.WZ = port + 1
	case 4:
		w.swapTop()
	case 5:
		w.r = regs.Swap(w.r, 2)
	case 6:
		w.r.IFF1, w.r.IFF2 = false, false
	case 7:
		w.r.IFF1, w.r.IFF2, w.r.Late = true, true, true
	}
}

// operate lets the operator of y make A of A and v.
func (w *row) operate(y int, v byte) {
	w.r.A, w.r.F = alu.Do(y, w.r.A, v, w.r.F)
}

// back goes where the word on the stack says.
func (w *row) back() {
	w.goTo(w.pop())
}

func (w *row) jumpFar(is bool) {
	w.r.WZ = w.operandWord()
	if is {
		w.r.PC = w.r.WZ
	}
}

func (w *row) call(is bool) {
	w.r.WZ = w.operandWord()
	if !is {
		return
	}
	w.idle(1)
	w.push(w.r.PC)
	w.r.PC = w.r.WZ
}

// swapTop swaps HL with the word on the stack, whose high byte is written first.
func (w *row) swapTop() {
	v := w.readWord(w.r.SP)
	w.idle(1)
	high, low := wide.Split(w.pair(pairHL))
	w.write(w.r.SP+1, high)
	w.write(w.r.SP, low)
	w.idle(2)
	w.putPair(pairHL, v)
	w.r.WZ = v
}

// handler answers where an interrupt goes, v being what came back of its first request.
func (w *row) handler(v byte) uint16 {
	switch w.r.IM {
	case 0:
		const places = 8 | 16 | 32
		return uint16(v & places)
	case 1:
		return 56
	default:
		return w.readWord(wide.Pair(w.r.I, v))
	}
}
