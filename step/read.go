package step

import (
	"pendulum/api"
	"pendulum/decode"
)

// The bytes that stand ahead of an operation's.
const (
	bitsByte = 0xcb
	moreByte = 0xed
	ixByte   = 0xdd
	iyByte   = 0xfd
)

// instruction reads what stands at PC, and does it.
func (w *row) instruction() {
	w.r.Late = false
	if w.r.Halt {
		w.fetch()
		return
	}
	switch op := w.operation(); op {
	case bitsByte:
		w.bits(w.operation())
	case moreByte:
		w.more(w.operation())
	case ixByte, iyByte:
		w.indexed(op)
	default:
		w.main(op)
	}
}

// indexed goes on behind the byte of an index. Whether that is a lone prefix
// is told by peek, as long as the byte behind it isn't fetched.
func (w *row) indexed(first int) {
	if w.isAtEnd() && makesLone(w.peek) {
		w.r.Late = true
		return
	}
	w.index = indexOf(first)
	if op := w.operation(); op != bitsByte {
		w.main(op)
		return
	}
	w.reach(w.operand())
	op := w.operand()
	w.idle(2)
	w.both(int(op))
}

func makesLone(second byte) bool {
	return second == ixByte || second == moreByte || second == iyByte
}

func indexOf(first int) int {
	if first == ixByte {
		return 1
	}
	return 2
}

// main does an operation of SetMain. Beside a Disp H and L are HL's own.
func (w *row) main(op int) {
	if disp, _ := decode.Needs(api.SetMain, w.index, op); !disp {
		w.named = w.index
	}
	const halt = 0x76
	switch x, y, z, _, _ := decode.Parts(op); {
	case x == 0:
		w.low(op)
	case op == halt:
		w.r.Halt = true
	case x == 1:
		w.store(y, w.value(z))
	case x == 2:
		w.operate(y, w.value(z))
	default:
		w.high(op)
	}
}

// interrupt accepts one.
func (w *row) interrupt() {
	w.r.Halt, w.r.IFF1, w.r.IFF2, w.r.Late = false, false, false, false
	v := w.acknowledge()
	w.push(w.r.PC)
	w.goTo(w.handler(v))
}
