package text

import (
	"strconv"
	"strings"

	"pendulum/api"
	"pendulum/decode"
)

// Of all operations of a set that have one pattern these are the least: what
// stands at its marks is of the least code that it has there.
const (
	leastOfMain = "\x00\x08\x10\x18\x20\x01\x09\x02\x0a\x12\x1a\x22\x2a\x32\x3a\x03\x0b\x04\x05\x06\x07\x0f\x17\x1f\x27\x2f\x37\x3f" +
		"\x40\x76\x80\xc0\xc1\xc9\xd9\xe9\xf9\xc2\xc3\xd3\xdb\xe3\xeb\xf3\xfb\xc4\xc5\xcd\xc6\xc7"
	leastOfBits = "\x00\x40\x80\xc0"
	leastOfMore = "\x40\x70\x41\x71\x42\x4a\x43\x4b\x44\x45\x4d\x46\x56\x5e\x47\x4f\x57\x5f\x67\x6f" +
		"\xa0\xa1\xa2\xa3\xa8\xa9\xaa\xab\xb0\xb1\xb2\xb3\xb8\xb9\xba\xbb"
	leastOfBoth = "\x06\x46\x86\xc6\x00\x80\xc0"
)

// group is the operations of a set that one thing stands ahead of.
type group struct {
	set   int
	ahead string
	least string
}

// ofBare answers the instruction whose text without the numbers of operands s
// is, those numbers 0; false, if there is none. Along each pattern one
// operation is read at most, which counts only if its own text is s.
func ofBare(s string) (api.Ins, bool) {
	plain, index := withNamesOfHL(s)
	for _, g := range groups(index) {
		for n := range len(g.least) {
			op, is := alongPattern(plain, g.set, int(g.least[n]))
			if !is {
				continue
			}
			if i := withoutOperands(g.ahead, op); !isBytes(i) && toldBare(i) == s {
				return i, true
			}
		}
	}
	return api.Ins{}, false
}

// withNamesOfHL answers s with HL's names in the place of an index's, and which
// index that is.
func withNamesOfHL(s string) (plain string, index int) {
	for index = len(indexNames) - 1; index > 0; index-- {
		if name := indexNames[index]; strings.Contains(s, name) {
			s = strings.ReplaceAll(s, name+"H", "H")
			s = strings.ReplaceAll(s, name+"L", "L")
			return strings.ReplaceAll(s, name, indexNames[0]), index
		}
	}
	return s, 0
}

func groups(index int) []group {
	switch index {
	case 1:
		return []group{{api.SetMain, "\xdd", leastOfMain}, {api.SetBoth, "\xdd\xcb\x00", leastOfBoth}}
	case 2:
		return []group{{api.SetMain, "\xfd", leastOfMain}, {api.SetBoth, "\xfd\xcb\x00", leastOfBoth}}
	default:
		return []group{{api.SetMain, "", leastOfMain}, {api.SetBits, "\xcb", leastOfBits}, {api.SetMore, "\xed", leastOfMore}}
	}
}

// withoutOperands answers the instruction of an operation's byte behind what
// stands ahead of it, its operands 0.
func withoutOperands(ahead string, op int) api.Ins {
	i, _ := decode.Of(append([]byte(ahead), byte(op), 0, 0, 0))
	return i
}

// alongPattern answers the operation that plain tells, if it has the pattern of
// the least one.
func alongPattern(plain string, set, least int) (op int, is bool) {
	r := reader{rest: plain, op: least, is: true}
	for _, c := range []byte(patternOf(api.Ins{Set: set, Op: least})) {
		if r.mark(c); !r.is {
			return 0, false
		}
	}
	return r.op, r.rest == ""
}

// reader goes along a text with HL's names, and puts the codes of what stands
// at a pattern's marks into the operation.
type reader struct {
	rest string
	op   int
	is   bool
}

// The places of y, of p and of z in an operation's byte.
const (
	placeY = 3
	placeP = 4
	placeZ = 0
)

// mark reads what a mark may stand for; any other sign stands for itself. The
// numbers of operands are left out.
func (r *reader) mark(c byte) {
	switch c {
	case markFirst:
		r.name(placeY, 8, byteName)
	case markSecond:
		r.name(placeZ, 8, byteName)
	case markPair:
		r.name(placeP, 4, pairName)
	case markStack:
		r.name(placeP, 4, pairNameOfStack)
	case markCondition:
		r.name(placeY, 8, condition)
	case markNear:
		r.name(placeY, 4, condition)
	case markBit:
		r.name(placeY, 8, strconv.Itoa)
	case markPlace:
		r.name(placeY, 8, timesEight)
	case markShift:
		r.name(placeY, 8, shiftName)
	case markOperation:
		r.name(placeY, 8, operationName)
	case markMemory:
		r.word(byteNames[codeMemory])
	case markIndex:
		r.word(pairNames[pairIndex])
	case markImm, markWay:
	default:
		r.sign(c)
	}
}

// name reads one of the names of so many codes; none of them begins as one of
// a greater code does.
func (r *reader) name(place, count int, of func(code int) string) {
	for code := range count {
		if rest, is := strings.CutPrefix(r.rest, of(code)); is {
			r.rest, r.op = rest, r.op|code<<place
			return
		}
	}
	r.is = false
}

func (r *reader) word(s string) {
	r.rest, r.is = strings.CutPrefix(r.rest, s)
}

func (r *reader) sign(c byte) {
	r.is = r.rest != "" && r.rest[0] == c
	if r.is {
		r.rest = r.rest[1:]
	}
}

func byteName(code int) string { return byteNames[code] }

func pairName(code int) string { return pairNames[code] }

func condition(code int) string { return conditions[code] }

func pairNameOfStack(code int) string {
	if code == pairSP {
		return nameAF
	}
	return pairNames[code]
}

func shiftName(y int) string { return shifts[y] }

func operationName(y int) string { return operations[y] }

func timesEight(y int) string { return strconv.Itoa(8 * y) }
