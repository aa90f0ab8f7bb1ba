package text_test

import (
	"math"
	"testing"

	"pendulum/api"
	"pendulum/decode"
	"pendulum/text"
)

var examples = []struct {
	b string
	s string
}{
	{"\x3e\x05", "LD A,5"},
	{"\xdd\x7e\xfe", "LD A,(IX-2)"},
	{"\xdd\x66\x01", "LD H,(IX+1)"},
	{"\x20\xfe", "JR NZ,-2"},
	{"\xfd\xcb\x03\xc6", "SET 0,(IY+3)"},
	{"\xfd\xcb\x03\xc0", "SET 0,(IY+3),B"},
	{"\xdd\x00", "DB 221,0"},
	{"\xed\x7f", "DB 237,127"},
	{"\xed\xb0", "LDIR"},
	{"\xed\x4c", "DB 237,76"},

	{"\x00", "NOP"},
	{"\x76", "HALT"},
	{"\x08", "EX AF,AF'"},
	{"\x3e\x00", "LD A,0"},
	{"\x3e\xff", "LD A,255"},
	{"\x21\x00\x00", "LD HL,0"},
	{"\x21\xff\xff", "LD HL,65535"},
	{"\x2a\x34\x12", "LD HL,(4660)"},
	{"\x10\x00", "DJNZ +0"},
	{"\x18\x05", "JR +5"},
	{"\x18\x7f", "JR +127"},
	{"\x38\x80", "JR C,-128"},
	{"\xd3\xfe", "OUT (254),A"},
	{"\xdb\xfe", "IN A,(254)"},
	{"\xc7", "RST 0"},
	{"\xff", "RST 56"},
	{"\xcb\x36", "SLL (HL)"},
	{"\xcb\x7f", "BIT 7,A"},
	{"\xdd\x36\x80\x07", "LD (IX-128),7"},
	{"\xfd\x36\x00\xff", "LD (IY+0),255"},
	{"\xfd\x7e\x7f", "LD A,(IY+127)"},
	{"\xfd\x75\x01", "LD (IY+1),L"},
	{"\xdd\x65", "LD IXH,IXL"},
	{"\xfd\xe9", "JP (IY)"},
	{"\xdd\xf9", "LD SP,IX"},
	{"\xfd\xe3", "EX (SP),IY"},
	{"\xfd\x29", "ADD IY,IY"},
	{"\xdd\x22\x01\x00", "LD (1),IX"},
	{"\xdd\xcb\x01\x46", "BIT 0,(IX+1)"},
	{"\xdd\xcb\xff\x34", "SLL (IX-1),H"},
	{"\xed\x70", "IN F,(C)"},
	{"\xed\x71", "OUT (C),0"},
	{"\xed\x5e", "IM 2"},
	{"\xed\xa3", "OUTI"},
	{"\xed\xbb", "OTDR"},
	{"\xed\x73\xff\xff", "LD (65535),SP"},

	{"\xdd\xeb", "DB 221,235"},
	{"\xdd\x76", "DB 221,118"},
	{"\xdd\xd9", "DB 221,217"},
	{"\xfd\xf1", "DB 253,241"},
	{"\xfd\x18\xff", "DB 253,24,255"},
	{"\xdd\x31\x02\x01", "DB 221,49,2,1"},
	{"\xdd\x7f", "DB 221,127"},
	{"\xed\x63\x09\x00", "DB 237,99,9,0"},
	{"\xed\x6b\xff\xff", "DB 237,107,255,255"},
	{"\xed\x00", "DB 237,0"},
	{"\xed\xff", "DB 237,255"},
	{"\xed\xdd", "DB 237,221"},
	{"\xed\x5d", "DB 237,93"},
	{"\xed\x4e", "DB 237,78"},
	{"\xfd\xcb\xff\x40", "DB 253,203,255,64"},
	{"\xdd\xcb\x00\x7f", "DB 221,203,0,127"},
}

// P10.1
func TestExamples(t *testing.T) {
	for _, x := range examples {
		i, err := decode.Of([]byte(x.b))
		if err != api.OK || i.Len != len(x.b) {
			t.Fatalf("% x: %+v, error %d", x.b, i, err)
		}
		if s, err := text.Of(i); err != api.OK || s != x.s {
			t.Errorf("Of(% x) = %q, error %d, want %q", x.b, s, err, x.s)
		}
		if j, err := text.Parse(x.s); err != api.OK || j != i {
			t.Errorf("Parse(%q) = %+v, error %d, want %+v", x.s, j, err, i)
		}
	}
}

// P10.1: lone prefixes are told by their byte, and by nothing behind it.
func TestLonePrefixes(t *testing.T) {
	for s, op := range map[string]int{"DB 221": 0xdd, "DB 253": 0xfd} {
		i := api.Ins{Op: op, Len: 1}
		if got, err := text.Of(i); err != api.OK || got != s {
			t.Errorf("Of(%+v) = %q, error %d", i, got, err)
		}
		if got, err := text.Parse(s); err != api.OK || got != i {
			t.Errorf("Parse(%q) = %+v, error %d", s, got, err)
		}
		for _, behind := range []string{",221", ",237", ",253", ",203", ",256", ",", " "} {
			checkRefused(t, s+behind)
		}
	}
}

// P10.1: all operations, with operands at their bounds and between.
func TestOfAllOperations(t *testing.T) {
	operations := map[[3]int]int{}
	for i := range eachInstruction {
		operations[[3]int{i.Set, i.Index, i.Op}]++
		if s, err := text.Of(i); err != api.OK || s != want(i) {
			t.Errorf("Of(%+v) = %q, error %d, want %q", i, s, err, want(i))
		}
	}
	if count := 3*252 + 2 + 2*256 + 2*256; len(operations) != count {
		t.Errorf("%d operations, want %d", len(operations), count)
	}
}

// P10.1, P10.2: Parse of each text is the instruction, so that no two have one text.
func TestParseOfOfIsTheInstruction(t *testing.T) {
	for i := range eachInstruction {
		if got, err := text.Parse(want(i)); err != api.OK || got != i {
			t.Errorf("Parse(%q) = %+v, error %d, want %+v", want(i), got, err, i)
		}
	}
}

// P10.2: all numbers that an operand may be.
func TestAllNumbers(t *testing.T) {
	for v := range 1 << 16 {
		low, high := byte(v), byte(v>>8)
		for _, b := range [][]byte{
			{0x21, low, high},
			{0xed, 0x7b, low, high},
			{0xfd, 0x36, high, low},
			{0xfd, 0xcb, high, low},
			{0xdd, 0x11, low, high},
		} {
			checkBoth(t, b)
		}
	}
	for v := range 256 {
		for _, op := range []byte{0x18, 0x28, 0x10, 0x3e, 0xd3, 0xfe} {
			checkBoth(t, []byte{op, byte(v)})
		}
	}
}

func checkBoth(t *testing.T, b []byte) {
	t.Helper()
	i, _ := decode.Of(b)
	s, err := text.Of(i)
	if err != api.OK || s != want(i) {
		t.Errorf("Of(% x) = %q, error %d, want %q", b, s, err, want(i))
	}
	if got, err := text.Parse(s); err != api.OK || got != i {
		t.Errorf("Parse(%q) = %+v, error %d, want %+v", s, got, err, i)
	}
}

// P10.1
func TestOfWhatMayNotBe(t *testing.T) {
	wrong := []api.Ins{
		{},
		{Len: 2},
		{Op: 0x3e, Imm: 256, Len: 2},
		{Op: 0x3e, Imm: -1, Len: 2},
		{Op: 0x3e, Imm: 5, Len: 1},
		{Op: 0x18, Imm: 128, Len: 2},
		{Op: 0x18, Imm: -129, Len: 2},
		{Op: 0x21, Imm: 65536, Len: 3},
		{Op: 0x7e, Index: 1, Disp: 128, Len: 3},
		{Op: 0x7e, Index: 3, Disp: 1, Len: 3},
		{Op: 0x7e, Index: -1, Len: 3},
		{Op: 0xcb, Len: 1},
		{Op: 0xdd, Index: 1, Len: 2},
		{Op: 256, Len: 1},
		{Op: -1, Len: 1},
		{Set: 4, Len: 1},
		{Set: -1, Len: 1},
		{Set: api.SetBoth, Op: 0xc6, Len: 4},
		{Set: api.SetBits, Index: 1, Len: 2},
		{Set: api.SetMore, Op: 0x7f, Len: 2, Imm: 1},
		{Set: math.MaxInt, Index: math.MinInt, Op: math.MaxInt, Disp: math.MinInt, Imm: math.MaxInt, Len: math.MinInt},
	}
	for i := range eachOperation {
		for _, change := range []func(*api.Ins){
			func(i *api.Ins) { i.Len++ },
			func(i *api.Ins) { i.Disp = 128 },
			func(i *api.Ins) { i.Imm = 65536 },
			func(i *api.Ins) { i.Op += 256 },
			func(i *api.Ins) { i.Set += 4 },
			func(i *api.Ins) { i.Index += 3 },
		} {
			another := i
			change(&another)
			wrong = append(wrong, another)
		}
	}
	for _, i := range wrong {
		if s, err := text.Of(i); err != api.ErrArg || s != "" {
			t.Errorf("Of(%+v) = %q, error %d", i, s, err)
		}
	}
}
