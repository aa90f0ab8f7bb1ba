package text

import (
	"strconv"
	"strings"

	"pendulum/api"
	"pendulum/decode"
)

// The codes of bytes that an index may stand in the place of.
const (
	codeHigh   = 4
	codeLow    = 5
	codeMemory = 6
)

// The codes of pairs that aren't the same everywhere.
const (
	pairIndex = 2
	pairSP    = 3
)

var byteNames = [8]string{"B", "C", "D", "E", "H", "L", "(HL)", "A"}

var pairNames = [4]string{"BC", "DE", "HL", "SP"}

// nameAF is that of the stack's pair in the place of SP.
const nameAF = "AF"

var indexNames = [3]string{"HL", "IX", "IY"}

var conditions = [8]string{"NZ", "Z", "NC", "C", "PO", "PE", "P", "M"}

// writer puts an instruction's text together. One that is bare leaves out the
// numbers of its operands.
type writer struct {
	text strings.Builder
	i    api.Ins
	bare bool
}

// told answers the text of an instruction whose text isn't its bytes.
func told(i api.Ins) string {
	w := writer{i: i}
	w.pattern(patternOf(i))
	return w.text.String()
}

// toldBare answers the same without the numbers of i's operands.
func toldBare(i api.Ins) string {
	w := writer{i: i, bare: true}
	w.pattern(patternOf(i))
	return w.text.String()
}

// inDigits answers the text that is bytes.
func inDigits(b []byte) string {
	var text strings.Builder
	text.WriteString(bytesWord)
	for n, c := range b {
		if n > 0 {
			text.WriteByte(',')
		}
		text.Write(strconv.AppendUint(nil, uint64(c), 10))
	}
	return text.String()
}

func (w *writer) pattern(p string) {
	for n := range len(p) {
		w.mark(p[n])
	}
}

// mark writes what a mark stands for; any other sign stands for itself.
func (w *writer) mark(c byte) {
	switch _, y, z, p, _ := decode.Parts(w.i.Op); c {
	case markFirst:
		w.byteOf(y)
	case markSecond:
		w.byteOf(z)
	case markMemory:
		w.memory()
	case markPair:
		w.pair(p)
	case markStack:
		w.pairOfStack(p)
	case markIndex:
		w.pair(pairIndex)
	case markCondition:
		w.text.WriteString(conditions[y])
	case markNear:
		w.text.WriteString(conditions[y%4])
	case markImm:
		w.operand(w.i.Imm)
	case markWay:
		w.signed(w.i.Imm)
	case markBit:
		w.number(y)
	case markPlace:
		w.number(8 * y)
	case markShift:
		w.text.WriteString(shifts[y])
	case markOperation:
		w.text.WriteString(operations[y])
	default:
		w.text.WriteByte(c)
	}
}

// byteOf writes the name of a byte. Beside a Disp H and L are HL's own.
func (w *writer) byteOf(code int) {
	disp, _ := decode.Needs(w.i.Set, w.i.Index, w.i.Op)
	switch half := code == codeHigh || code == codeLow; {
	case code == codeMemory && disp:
		w.memory()
	case half && !disp && w.i.Index != 0:
		w.text.WriteString(indexNames[w.i.Index] + byteNames[code])
	default:
		w.text.WriteString(byteNames[code])
	}
}

func (w *writer) memory() {
	w.text.WriteByte('(')
	w.pair(pairIndex)
	w.signed(w.i.Disp)
	w.text.WriteByte(')')
}

func (w *writer) pair(code int) {
	if code == pairIndex {
		w.text.WriteString(indexNames[w.i.Index])
		return
	}
	w.text.WriteString(pairNames[code])
}

func (w *writer) pairOfStack(code int) {
	if code == pairSP {
		w.text.WriteString(nameAF)
		return
	}
	w.pair(code)
}

// signed writes an operand with its sign always.
func (w *writer) signed(v int) {
	if v >= 0 && !w.bare {
		w.text.WriteByte('+')
	}
	w.operand(v)
}

func (w *writer) operand(v int) {
	if !w.bare {
		w.number(v)
	}
}

func (w *writer) number(v int) {
	w.text.Write(strconv.AppendInt(nil, int64(v), 10))
}
