package length_test

import (
	"math"
	"slices"
	"strconv"
	"strings"
	"testing"

	"pendulum/api"
	"pendulum/decode"
	"pendulum/length"
	"pendulum/text"
)

// lengths are the chapter's rows: operations, their cycles, and with what comes
// more, if they hang on something.
type lengths []struct{ ops, plain, more string }

var mainRows = lengths{
	{"00 08 76 d9 f3 fb 07 0f 17 1f 27 2f 37 3f e9 eb", "4", ""},
	{"04 0c 14 1c 24 2c 3c 05 0d 15 1d 25 2d 3d", "4", ""},
	{"10", "5-3", "5-8"},
	{"20 28 30 38", "4-3", "4-8"},
	{"18", "4-8", ""},
	{"01 11 21 31 c3 c2 ca d2 da e2 ea f2 fa", "4-3-3", ""},
	{"09 19 29 39", "11", ""},
	{"03 13 23 33 0b 1b 2b 3b f9", "6", ""},
	{"02 12 0a 1a", "4-3", ""},
	{"46 4e 56 5e 66 6e 7e 70 71 72 73 74 75 77", "4-3", ""},
	{"86 8e 96 9e a6 ae b6 be", "4-3", ""},
	{"06 0e 16 1e 26 2e 3e c6 ce d6 de e6 ee f6 fe", "4-3", ""},
	{"22 2a", "4-3-3-3-3", ""},
	{"32 3a", "4-3-3-3", ""},
	{"34 35", "4-4-3", ""},
	{"36", "4-3-3", ""},
	{"c0 c8 d0 d8 e0 e8 f0 f8", "5", "5-3-3"},
	{"c9 c1 d1 e1 f1", "4-3-3", ""},
	{"c5 d5 e5 f5 c7 cf d7 df e7 ef f7 ff", "5-3-3", ""},
	{"c4 cc d4 dc e4 ec f4 fc", "4-3-3", "4-3-4-3-3"},
	{"cd", "4-3-4-3-3", ""},
	{"d3 db", "4-3-4", ""},
	{"e3", "4-3-4-3-5", ""},
}

// reachingRows are those of SetMain that reach into memory, with an index.
var reachingRows = lengths{
	{"46 4e 56 5e 66 6e 7e 70 71 72 73 74 75 77", "4-4-8-3", ""},
	{"86 8e 96 9e a6 ae b6 be", "4-4-8-3", ""},
	{"34 35", "4-4-8-4-3", ""},
	{"36", "4-4-3-5-3", ""},
}

var moreRows = lengths{
	{"40 48 50 58 60 68 70 78 41 49 51 59 61 69 71 79", "4-4-4", ""},
	{"42 52 62 72 4a 5a 6a 7a", "4-11", ""},
	{"43 53 63 73 4b 5b 6b 7b", "4-4-3-3-3-3", ""},
	{"45 4d 55 5d 65 6d 75 7d", "4-4-3-3", ""},
	{"47 4f 57 5f", "4-5", ""},
	{"67 6f", "4-4-7-3", ""},
	{"a0 a8", "4-4-3-5", ""},
	{"b0 b8", "4-4-3-5", "4-4-3-10"},
	{"a1 a9", "4-4-8", ""},
	{"b1 b9", "4-4-8", "4-4-13"},
	{"a2 aa", "4-5-4-3", ""},
	{"b2 ba", "4-5-4-3", "4-5-4-8"},
	{"a3 ab", "4-5-3-4", ""},
	{"b3 bb", "4-5-3-4", "4-5-3-9"},
}

// of answers the cycles of the row that has an operation; of none that they are
// the others.
func (l lengths) of(op int, others string) (plain, more string) {
	for _, row := range l {
		for _, digits := range strings.Fields(row.ops) {
			if v, err := strconv.ParseInt(digits, 16, 16); err != nil {
				panic(digits)
			} else if int(v) != op {
				continue
			}
			if row.more == "" {
				return row.plain, row.plain
			}
			return row.plain, row.more
		}
	}
	return others, others
}

// written answers the cycles of an instruction by the rows.
func written(i api.Ins) (plain, more string) {
	register := i.Op%8 != 6
	looks := i.Op/64 == 1
	switch {
	case i.Set == api.SetBits && register:
		return "4-4", "4-4"
	case i.Set == api.SetBits && looks:
		return "4-4-4", "4-4-4"
	case i.Set == api.SetBits:
		return "4-4-4-3", "4-4-4-3"
	case i.Set == api.SetBoth && looks:
		return "4-4-3-5-4", "4-4-3-5-4"
	case i.Set == api.SetBoth:
		return "4-4-3-5-4-3", "4-4-3-5-4-3"
	case i.Set == api.SetMore:
		return moreRows.of(i.Op, "4-4")
	}
	plain, more = mainRows.of(i.Op, "4")
	if i.Index == 0 {
		return plain, more
	}
	if reached, _ := reachingRows.of(i.Op, ""); reached != "" {
		return reached, reached
	}
	return "4-" + plain, "4-" + more
}

func numbers(cycles string) (l []int) {
	for _, digits := range strings.Split(cycles, "-") {
		v, err := strconv.Atoi(digits)
		if err != nil {
			panic(digits)
		}
		l = append(l, v)
	}
	return l
}

func total(l []int) (sum int) {
	for _, v := range l {
		sum += v
	}
	return sum
}

// eachInstruction goes over all operations, each with several operands.
func eachInstruction(yield func(i api.Ins) bool) {
	for _, ahead := range []string{"", "\xcb", "\xed", "\xdd", "\xfd", "\xdd\xcb", "\xfd\xcb"} {
		for op := range 256 {
			for _, operand := range []byte{0, 1, 0x7f, 0x80, 0xfe, 0xff, 0xdd, 0xed} {
				b := append([]byte(ahead), byte(op), operand, operand^0x5a, operand)
				if len(ahead) == 2 {
					b = []byte{ahead[0], ahead[1], operand, byte(op)}
				}
				if i, err := decode.Of(b); err != api.OK || !yield(i) {
					return
				}
			}
		}
	}
}

func checkLength(t *testing.T, i api.Ins, plain, more string) {
	t.Helper()
	for n, want := range [][]int{numbers(plain), numbers(more)} {
		if l, err := length.Of(i, n == 1); err != api.OK || !slices.Equal(l, want) {
			t.Errorf("Of(%+v, %t) = %v, error %d, want %v", i, n == 1, l, err, want)
		}
		if sum, err := length.Total(i, n == 1); err != api.OK || sum != total(want) {
			t.Errorf("Total(%+v, %t) = %d, error %d, want %d", i, n == 1, sum, err, total(want))
		}
	}
	if length.Hangs(i) != (plain != more) {
		t.Errorf("Hangs(%+v) = %t", i, length.Hangs(i))
	}
}

// P12.1
func TestRows(t *testing.T) {
	count := 0
	for i := range eachInstruction {
		plain, more := written(i)
		checkLength(t, i, plain, more)
		count++
	}
	if count != 7*256*8 {
		t.Error(count, "instructions")
	}
}

// P12.1: the chapter's examples, and one of each row by its text.
func TestTexts(t *testing.T) {
	for _, x := range []struct{ text, plain, more string }{
		{"DJNZ -2", "5-3", "5-8"},
		{"RET", "4-3-3", "4-3-3"},
		{"INC (IX+1)", "4-4-8-4-3", "4-4-8-4-3"},
		{"LDIR", "4-4-3-5", "4-4-3-10"},
		{"CALL 4096", "4-3-4-3-3", "4-3-4-3-3"},
		{"CALL NZ,4096", "4-3-3", "4-3-4-3-3"},
		{"RET M", "5", "5-3-3"},
		{"JR +5", "4-8", "4-8"},
		{"JR C,+5", "4-3", "4-8"},
		{"JP 5", "4-3-3", "4-3-3"},
		{"JP PE,5", "4-3-3", "4-3-3"},
		{"JP (HL)", "4", "4"},
		{"JP (IY)", "4-4", "4-4"},
		{"HALT", "4", "4"},
		{"ADD HL,SP", "11", "11"},
		{"ADD IX,IX", "4-11", "4-11"},
		{"LD (IY-1),7", "4-4-3-5-3", "4-4-3-5-3"},
		{"LD (IY-1),A", "4-4-8-3", "4-4-8-3"},
		{"LD A,IXH", "4-4", "4-4"},
		{"LD (4660),IX", "4-4-3-3-3-3", "4-4-3-3-3-3"},
		{"LD (4660),BC", "4-4-3-3-3-3", "4-4-3-3-3-3"},
		{"EX (SP),IX", "4-4-3-4-3-5", "4-4-3-4-3-5"},
		{"POP IY", "4-4-3-3", "4-4-3-3"},
		{"PUSH IY", "4-5-3-3", "4-5-3-3"},
		{"LD SP,IX", "4-6", "4-6"},
		{"BIT 7,(HL)", "4-4-4", "4-4-4"},
		{"SET 7,(HL)", "4-4-4-3", "4-4-4-3"},
		{"RLC B", "4-4", "4-4"},
		{"BIT 7,(IX+0)", "4-4-3-5-4", "4-4-3-5-4"},
		{"RES 7,(IX+0)", "4-4-3-5-4-3", "4-4-3-5-4-3"},
		{"SLA (IX+0),B", "4-4-3-5-4-3", "4-4-3-5-4-3"},
		{"LD A,R", "4-5", "4-5"},
		{"NEG", "4-4", "4-4"},
		{"LDI", "4-4-3-5", "4-4-3-5"},
		{"CPDR", "4-4-8", "4-4-13"},
		{"CPD", "4-4-8", "4-4-8"},
		{"INIR", "4-5-4-3", "4-5-4-8"},
		{"IND", "4-5-4-3", "4-5-4-3"},
		{"OTDR", "4-5-3-4", "4-5-3-9"},
		{"OUTI", "4-5-3-4", "4-5-3-4"},
		{"RST 56", "5-3-3", "5-3-3"},
	} {
		i, err := text.Parse(x.text)
		if err != api.OK {
			t.Fatalf("%s: error %d", x.text, err)
		}
		checkLength(t, i, x.plain, x.more)
	}
	checkLength(t, api.Ins{Op: 0xdd, Len: 1}, "4", "4")
	checkLength(t, api.Ins{Op: 0xfd, Len: 1}, "4", "4")
	checkLength(t, api.Ins{Op: 0x20, Index: 1, Imm: -2, Len: 3}, "4-4-3", "4-4-8")
	checkLength(t, api.Ins{Op: 0xc4, Index: 2, Imm: 65535, Len: 4}, "4-4-3-3", "4-4-3-4-3-3")
}

// P12.1: of such as may not be.
func TestWhatMayNotBe(t *testing.T) {
	wrong := []api.Ins{
		{}, {Len: 2}, {Op: 0xcb, Len: 1}, {Op: 0xed, Len: 1}, {Op: 0xdd, Index: 1, Len: 2},
		{Op: 256, Len: 1}, {Op: -1, Len: 1}, {Set: 4, Len: 1}, {Set: -1, Len: 1}, {Index: 3, Len: 2}, {Index: -1, Len: 2},
		{Set: api.SetBoth, Len: 4}, {Set: api.SetBits, Index: 1, Len: 3}, {Set: api.SetMore, Op: 0xb0, Index: 2, Len: 3},
		{Op: 0x10, Imm: 128, Len: 2}, {Op: 0x10, Imm: -129, Len: 2}, {Op: 0x10}, {Op: 0x20, Disp: 1, Len: 2},
		{Op: 0xc4, Imm: 65536, Len: 3}, {Op: 0xc4, Imm: -1, Len: 3}, {Op: 0xc0, Imm: 1, Len: 1},
		{Op: 0x10 + 256, Len: 2}, {Op: 0x10 - 256, Len: 2}, {Op: 0x34, Index: 1, Disp: 128, Len: 3},
		{Set: api.SetMore, Op: 0xb0, Len: 1}, {Set: api.SetMore, Op: 0xb0 + 256, Len: 2},
		{Set: math.MaxInt, Index: math.MaxInt, Op: math.MaxInt, Disp: math.MaxInt, Imm: math.MaxInt, Len: math.MaxInt},
		{Set: math.MinInt, Index: math.MinInt, Op: math.MinInt, Disp: math.MinInt, Imm: math.MinInt, Len: math.MinInt},
	}
	for _, i := range wrong {
		for _, more := range []bool{false, true} {
			if l, err := length.Of(i, more); err != api.ErrArg || len(l) != 0 {
				t.Errorf("Of(%+v, %t) = %v, error %d", i, more, l, err)
			}
			if sum, err := length.Total(i, more); err != api.ErrArg || sum != 0 {
				t.Errorf("Total(%+v, %t) = %d, error %d", i, more, sum, err)
			}
		}
		if length.Hangs(i) {
			t.Errorf("Hangs(%+v)", i)
		}
	}
}

// P12.1: what is answered is nobody else's.
func TestCyclesAreNew(t *testing.T) {
	for i := range eachInstruction {
		l, _ := length.Of(i, true)
		want := slices.Clone(l)
		other, _ := length.Of(i, true)
		for n := range l[:cap(l)] {
			l[:cap(l)][n] = -1
		}
		again, _ := length.Of(i, true)
		if !slices.Equal(other, want) || !slices.Equal(again, want) {
			t.Fatalf("Of(%+v) = %v, %v, want %v", i, other, again, want)
		}
	}
}
