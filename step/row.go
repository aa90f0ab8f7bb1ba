package step

import (
	"pendulum/api"
	"pendulum/regs"
	"pendulum/wide"
)

// row is an instruction, or an interrupt, that is run from its beginning. Each
// of its requests is answered at once by what came back; the first one that has
// no answer yet ends the run.
type row struct {
	r     api.Regs
	got   []byte
	taken int // of got
	peek  byte
	index int // in whose place of HL pairs are named, and memory is reached
	named int // likewise of bytes
}

// asked is the panic's value at the first request without an answer.
type asked api.Req

// told runs a row, and answers what comes next of it.
func told(w row, run func(*row)) (q api.Req, s api.Regs, done bool, e api.Errno) {
	if e = regs.Check(w.r); e != api.OK {
		return api.Req{}, api.Regs{}, false, e
	}
	defer func() {
		if a, is := recover().(asked); is {
			q = api.Req(a)
		}
	}()
	run(&w)
	if w.taken < len(w.got) {
		return api.Req{}, api.Regs{}, false, api.ErrLong
	}
	return api.Req{}, w.r, true, api.OK
}

func (w *row) ask(q api.Req) byte {
	if w.isAtEnd() {
		panic(asked(q))
	}
	w.taken++
	return w.got[w.taken-1]
}

// isAtEnd answers whether nothing came back for the next request yet.
func (w *row) isAtEnd() bool {
	return w.taken == len(w.got)
}

func (w *row) askFor(kind int, at uint16) byte {
	return w.ask(api.Req{Kind: kind, Addr: at, T: lasts(kind)})
}

func (w *row) give(kind int, at uint16, v byte) {
	w.ask(api.Req{Kind: kind, Addr: at, Value: v, T: lasts(kind)})
}

func (w *row) fetch() byte {
	w.r = regs.Refresh(w.r)
	return w.askFor(api.ReqFetch, w.r.PC)
}

func (w *row) acknowledge() byte {
	w.r = regs.Refresh(w.r)
	return w.askFor(api.ReqAck, w.r.PC)
}

func (w *row) read(at uint16) byte     { return w.askFor(api.ReqRead, at) }
func (w *row) write(at uint16, v byte) { w.give(api.ReqWrite, at, v) }
func (w *row) in(port uint16) byte     { return w.askFor(api.ReqIn, port) }
func (w *row) out(port uint16, v byte) { w.give(api.ReqOut, port, v) }

func (w *row) idle(count int) {
	w.ask(api.Req{Kind: api.ReqIdle, T: count})
}

// operation fetches the next byte of an instruction.
func (w *row) operation() int {
	op := w.fetch()
	w.r.PC++
	return int(op)
}

// operand reads the next byte of an instruction.
func (w *row) operand() byte {
	v := w.read(w.r.PC)
	w.r.PC++
	return v
}

// operandWord reads the next two bytes of an instruction.
func (w *row) operandWord() uint16 {
	low := w.operand()
	return wide.Pair(w.operand(), low)
}

func (w *row) readWord(at uint16) uint16 {
	low := w.read(at)
	return wide.Pair(w.read(at+1), low)
}

func (w *row) writeWord(at, v uint16) {
	high, low := wide.Split(v)
	w.write(at, low)
	w.write(at+1, high)
}

func (w *row) push(v uint16) {
	high, low := wide.Split(v)
	w.write(w.r.SP-1, high)
	w.write(w.r.SP-2, low)
	w.r.SP -= 2
}

func (w *row) pop() uint16 {
	v := w.readWord(w.r.SP)
	w.r.SP += 2
	return v
}
