package text

import (
	"maps"
	"slices"
	"sync"
	"testing"

	"pendulum/api"
)

// checkSame holds what the function tells of a text against what the map has.
func checkSame(t *testing.T, bare string) {
	t.Helper()
	inMap, has := known()[bare]
	if i, is := ofBare(bare); is != has || i != inMap {
		t.Errorf("%q: %+v, %t, in the map %+v, %t", bare, i, is, inMap, has)
	}
	if i, is := Known(bare); is != has || i != inMap {
		t.Errorf("Known(%q) = %+v, %t, in the map %+v, %t", bare, i, is, inMap, has)
	}
}

// Way 10: the function tells the same as the map, for all its texts.
func TestFunctionTellsAllOfTheMap(t *testing.T) {
	for bare, i := range known() {
		if got, is := ofBare(bare); !is || got != i {
			t.Errorf("%q: %+v, %t, in the map %+v", bare, got, is, i)
		}
		if got, is := Known(bare); !is || got != i {
			t.Errorf("Known(%q) = %+v, %t, in the map %+v", bare, got, is, i)
		}
	}
}

// Way 10: the map has all operations whose texts aren't their bytes, each by a text of its own.
func TestMapHasAll(t *testing.T) {
	count := map[[2]int]int{}
	for bare, i := range known() {
		if toldBare(i) != bare || isBytes(i) || i.Disp != 0 || i.Imm != 0 {
			t.Errorf("%q: %+v, whose text is %q", bare, i, toldBare(i))
		}
		count[[2]int{i.Set, i.Index}]++
	}
	want := map[[2]int]int{
		{api.SetMain, 0}: 256 - 4,
		{api.SetMain, 1}: 85,
		{api.SetMain, 2}: 85,
		{api.SetBits, 0}: 256,
		{api.SetMore, 0}: 58,
		{api.SetBoth, 1}: 3*64 + 8,
		{api.SetBoth, 2}: 3*64 + 8,
	}
	if !maps.Equal(count, want) {
		t.Errorf("by set and index the map has %v, want %v", count, want)
	}
}

// Way 10: of texts that the map doesn't have there is none.
func TestFunctionTellsNoMore(t *testing.T) {
	for _, bare := range []string{
		"", " ", "\x00", "\xff", "nop", "NOP ", " NOP", "NO", "NOPE", "N", "LD", "LD ", "LD A", "LD  A,", "LD A,5", "LD A,(5)", "LD A,( )", "LD ,A", "LD ,", "LD (),()",
		"LD (HL),(HL)", "LD B,()", "LD BC,BC", "LD AF,", "LD HL,SP", "LD SP,BC", "LD H,IXL", "LD IXH,H", "LD IXH,IYL", "LD IXH,(IX)", "LD (IX),IXH", "LD (IX),(IX)", "LD (IX),(IY)", "LD (IX),(HL)",
		"LD IX,IX", "LD IX,HL", "LD HL,IX", "LD IX,()5", "LD (IX+5),", "LD (IX5),", "LD (IX),,", "ADD HL,IX", "ADD IX,HL", "ADD IX,IY", "ADC IX,BC", "SBC IX,BC", "EX DE,IX", "EX (SP),SP", "EX AF,AF",
		"JP (IX+)", "JP HL", "JP IX", "JP (BC)", "JP NC", "JP X,", "JR PO,", "JR M,", "JR", "CALL", "DJNZ", "RET X", "RET NZ ", "RST", "RST ", "RST 5", "RST 08", "RST 64", "RST 56 ",
		"PUSH SP", "POP SP", "PUSH A", "PUSH IXH", "BIT ,A", "BIT 8,A", "BIT 0,IXH", "BIT 0,(IX),B", "BIT 0", "BIT 00,A", "SET 0,(IX),(IX)", "SET 0,(IX),IXH", "SET 0,(HL),B", "RES 0,(IY),(HL)", "RLC (IX),(IX)", "RLC", "RLC IXH", "SLL (IX),",
		"IN (HL),(C)", "IN F,()", "OUT (C),(HL)", "OUT (C),", "OUT (C),1", "OUT (),B", "IM ", "IM 3", "IM 01", "OTI", "OTD", "OUTIR", "OUTDR", "LDID", "INRI", "DB ", "DB ,", "DB", "h", "LD y,z", "az", "rz", "k", "PUSH k", "IX", "IXH", "IY", "HL", "(IX)",
	} {
		checkSame(t, bare)
		if _, is := ofBare(bare); is {
			t.Errorf("%q is an instruction's", bare)
		}
	}
}

// Way 10: all texts that are one sign off, and the texts with the numbers of their operands.
func TestFunctionTellsTheSameOfNearTexts(t *testing.T) {
	for bare, i := range known() {
		checkSame(t, told(i))
		for n := range len(bare) + 1 {
			behind := min(n+1, len(bare))
			for _, c := range []string{"0", "7", "8", "+", ",", " ", "(", ")", "A", "C", "H", "L", "I", "X", "Y", "IX", "IY", "HL", "R", "P", "N", "a", "z", "m", "\x00", "\xff"} {
				checkSame(t, bare[:n]+c+bare[n:])
				checkSame(t, bare[:n]+c+bare[behind:])
			}
			checkSame(t, bare[:n]+bare[behind:])
			checkSame(t, bare[:n])
			checkSame(t, bare[n:])
			checkSame(t, bare[n:]+bare[:n])
		}
		if t.Failed() {
			return
		}
	}
}

// Way 10: Of, Parse, List and Make neither make the map nor go by what it has.
func TestFourCallsReadNoMap(t *testing.T) {
	defer forgetKnown()
	forgetKnown()
	checkFourCalls(t)
	if knownByText != nil {
		t.Error("the map was made")
	}
	knownOnce.Do(func() {
		knownByText = map[string]api.Ins{"LD A,": {Op: 0x06, Len: 2}, "LD A,05": {Len: 1}, "NOP": {Op: 0xc9, Len: 1}}
	})
	checkFourCalls(t)
}

func forgetKnown() {
	knownOnce, knownByText = sync.Once{}, nil
}

func checkFourCalls(t *testing.T) {
	t.Helper()
	want := api.Ins{Op: 0x3e, Imm: 5, Len: 2}
	if s, err := Of(want); err != api.OK || s != "LD A,5" {
		t.Errorf("Of(%+v) = %q, error %d", want, s, err)
	}
	if i, err := Parse("LD A,5"); err != api.OK || i != want {
		t.Errorf("Parse(LD A,5) = %+v, error %d", i, err)
	}
	if i, err := Parse("LD A,05"); err != api.ErrText || i != (api.Ins{}) {
		t.Errorf("Parse(LD A,05) = %+v, error %d", i, err)
	}
	l, n := List([]byte{0, 0x3e, 5, 0xdd, 0})
	if n != 5 || !slices.Equal(l, []string{"NOP", "LD A,5", "DB 221,0"}) {
		t.Errorf("List: %q, %d", l, n)
	}
	if b, err := Make(l); err != api.OK || string(b) != "\x00\x3e\x05\xdd\x00" {
		t.Errorf("Make(%q) = % x, error %d", l, b, err)
	}
}

// Way 10: the map is made once, whoever asks first.
func TestKnownInManyGoroutines(t *testing.T) {
	defer forgetKnown()
	forgetKnown()
	var all sync.WaitGroup
	for range 32 {
		all.Go(func() {
			for _, bare := range []string{"LD A,", "LDIR", "SET 0,(IY),B", "LD A,5"} {
				i, is := Known(bare)
				if want, has := ofBare(bare); is != has || i != want {
					t.Errorf("Known(%q) = %+v, %t", bare, i, is)
				}
			}
		})
	}
	all.Wait()
}

func FuzzKnown(f *testing.F) {
	for _, bare := range []string{"LD A,", "LD (IX),", "SET 0,(IY),B", "JR NZ,", "LD A,5", "BIT 0,IXH"} {
		f.Add(bare)
	}
	f.Fuzz(func(t *testing.T, bare string) {
		checkSame(t, bare)
	})
}
