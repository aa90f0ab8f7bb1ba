package text_test

import (
	"strings"
	"sync"
	"testing"

	"pendulum/api"
	"pendulum/decode"
	"pendulum/text"
)

func checkRefused(t *testing.T, s string) {
	t.Helper()
	if i, err := text.Parse(s); err != api.ErrText || i != (api.Ins{}) {
		t.Errorf("Parse(%.40q) = %+v, error %d", s, i, err)
	}
}

var noTexts = []string{
	"", " ", "\n", "\x00", "\xff", "5", "+5", "-", ",", "()", "n", "LD", "LD ", "LD A", "LD A,", "LD A, 5", "LD  A,5", "LD\tA,5", "LD A ,5",
	" NOP", "NOP ", "NOP\n", "NOP\x00", "nop", "Nop", "NOP5", "NOP 5", "NO P", "NOPNOP", "NOP,NOP", "NOP;", "NOP,",
	"ld a,5", "LD a,5", "LD A,05", "LD A,00", "LD A,+5", "LD A,-5", "LD A,-0", "LD A,256", "LD A,1000", "LD A,65536", "LD A,5,", "LD A,5,6",
	"LD A,5B", "LD A,B5", "LD 5A,5", "5LD A,5", "LD5 A,", "LD A,5 ", "LD A,0x5", "LD A,5h", "LD A,#5", "LD A,$5", "LD A,5.", "LD A,5e0", "LD A,1_0",
	"LD A,5+5", "LD A,5-5", "LD A,--5", "LD A,\uff15", "LD A,\u0665", "LD A,18446744073709551621", "LD A,99999999999999999999999999999",
	"LD A,(5", "LD A,5)", "LD A,()", "LD A,(65536)", "LD A,(05)", "LD A,(+5)", "LD A,(-1)", "LD A,[5]", "LD B,(5)", "LD (5),B", "LD (5),5", "LD (HL),(HL)", "LD (C),A",
	"LD BC,65536", "LD BC,-1", "LD BC,BC", "LD AF,5", "LD SP,BC", "LD HL,SP", "LD BC,HL", "LD IX,HL", "LD HL,IX", "LD SP,AF",
	"LD A,(IX)", "LD A,(IX+)", "LD A,(IX-)", "LD A,(IX5)", "LD A,(IX+05)", "LD A,(IX+128)", "LD A,(IX-129)", "LD A,(IX-0)", "LD A,(IX--1)", "LD A,(IX+-1)", "LD A,(IX+1", "LD A,(IZ+1)", "LD A,(HL+1)", "LD A,(IX+1)+1",
	"LD (IX+1)", "LD (IX+1),", "LD (IX+1),+5", "LD (IX+1),256", "LD (IX),5", "LD (IX5),+1", "LD (IX+1),IXH", "LD IXH,(IX+1)", "LD IXH,IYL", "LD IXH,H", "LD H,IXL", "LD (IX+1),(IX+1)", "LD (IX+1),5,6",
	"IN A,(256)", "IN B,(5)", "IN (C)", "IN (HL),(C)", "IN A,(B)", "OUT (5),B", "OUT (C),1", "OUT (C),00", "OUT (C),(HL)", "OUT (C),F", "OUT (C),", "IN F,(5)",
	"JR 5", "JR 0", "JR +05", "JR -0", "JR +128", "JR -129", "JR PO,+5", "JR M,-1", "JR NZ,5", "JR NZ", "JR NZ,", "JR ,+5", "DJNZ 5", "DJNZ", "DJNZ NZ,+5",
	"JP 65536", "JP +5", "JP -1", "JP (5)", "JP HL", "JP (IX+0)", "JP (IX+1)", "JP (BC)", "JP C,(HL)", "CALL", "CALL (HL)", "CALL X,5", "CALL 05",
	"RST 1", "RST 7", "RST 64", "RST +8", "RST 08", "RST", "RST ", "IM 3", "IM", "IM ", "IM +0", "IM 00", "IM 1 ",
	"BIT 8,A", "BIT -1,A", "BIT +1,A", "BIT 01,A", "BIT ,A", "BIT A", "BIT 0", "BIT 0,", "BIT 0,IXH", "BIT 0,(IX)", "BIT 0,(IX+1),B", "SET 0,(IY+3),(HL)", "SET 0,(IY+3),IYH", "SET 0,(IY+3),", "SET 0(IY+3)", "SET 9,(IY+3)", "SET 0,(IY+03)", "SET 0,(HL),B", "RLC 5", "RLC (IX+1),(IX+1)", "RLC IXH", "SLL", "SLI B",
	"ADD 5", "ADD B", "ADC 5", "SBC B", "SUB A,5", "SUB A,B", "AND A,5", "CP A,5", "SUB -1", "SUB 256", "ADD HL,IX", "ADD IX,HL", "ADD IX,IY", "ADD HL,AF", "ADD A,BC", "ADC IX,BC", "SBC IX,IX", "ADD A,(IX)", "INC AF", "INC (IX)", "INC 5", "INC IX+1",
	"PUSH SP", "POP SP", "PUSH IXH", "PUSH A", "EX AF,AF", "EX AF',AF", "EX HL,DE", "EX DE,IX", "EX (SP),DE", "EX (SP),SP",
	"RET ", "RET 5", "RET NV", "RETI ", "NEG A", "LDIR ", "LDI R", "OUTIR", "OTI", "OTD", "OUTDR", "OTIRR", "LDIRD", "INF", "CPIDR", "LD A,F", "LD F,A", "LD I,B", "LD B,I", "LD R,R", "RLD (HL)",
}

// P10.1
func TestParseRefuses(t *testing.T) {
	for _, s := range noTexts {
		checkRefused(t, s)
	}
}

// P10.1: bytes in digits that are no instruction's, or one's whose text is another.
func TestParseRefusesBytes(t *testing.T) {
	for _, s := range []string{
		"DB", "DB ", "DB  221,0", "DB,221,0", "DB\t221,0", "db 221,0", "DB ,", "DB ,0", "DB 221,", "DB ,221",
		"DB 0", "DB 203,0", "DB 62,5", "DB 203", "DB 237", "DB 221,203", "DB 221,203,1", "DB 221,6", "DB 221,49,2", "DB 237,99,9",
		"DB 221,0,0", "DB 221,6,5,0", "DB 237,127,0", "DB 237,76,221", "DB 221,203,0,64,0", "DB 221,221", "DB 221,237,0", "DB 253,221,0",
		"DB 221,00", "DB 0221,0", "DB 221,+0", "DB 221,-0", "DB +221,0", "DB 221, 0", "DB 221,0 ", "DB 221 ,0", "DB 221;0", "DB 221.0", "DB 221,0,", "DB 221,,0",
		"DB 477,0", "DB 221,256", "DB -35,0", "DB 221,-256", "DB 237,332", "DB 0xdd,0", "DB 18446744073709551837,0", "DB 221,18446744073709551616",
		"DB 221,9", "DB 221,126,1", "DB 221,203,1,70", "DB 237,176", "DB 237,68", "DB 237,67,1,2", "DB 34,1,2", "DB A", "DB 221,A", "DB 1,2,3,4,5",
	} {
		checkRefused(t, s)
	}
}

// P10.1: of the texts of bytes just those that are an instruction's own.
func TestParseOfAllPairsOfBytes(t *testing.T) {
	for first := range 256 {
		for second := range 256 {
			b := []byte{byte(first), byte(second)}
			s := digitsOf(b)
			i, err := decode.Of(append(b, 0xdd, 0xdd, 0xdd))
			if err == api.OK && i.Len == 2 && want(i) == s {
				if got, err := text.Parse(s); err != api.OK || got != i {
					t.Errorf("Parse(%q) = %+v, error %d", s, got, err)
				}
				continue
			}
			checkRefused(t, s)
		}
	}
}

// P10.1: a text with one sign changed, put in or left out is no text, but where it is another's.
func TestParseOfNearTexts(t *testing.T) {
	known := map[string]api.Ins{}
	for i := range eachInstruction {
		known[want(i)] = i
	}
	for i := range eachOperation {
		s := want(i)
		for n := range len(s) + 1 {
			for _, c := range []string{"0", "1", "+", "-", ",", " ", "(", ")", "A", "B", "H", "X", "'", "a", "\x00", "\xff"} {
				checkNear(t, known, s[:n]+c+s[n:])
				checkNear(t, known, s[:n]+c+s[min(n+1, len(s)):])
			}
			checkNear(t, known, s[:n]+s[min(n+1, len(s)):])
			checkNear(t, known, s[:n])
			checkNear(t, known, s[n:])
			checkNear(t, known, s[n:]+s[:n])
		}
	}
}

// checkNear looks at a text that may be another instruction's, of other numbers too.
func checkNear(t *testing.T, known map[string]api.Ins, s string) {
	i, err := text.Parse(s)
	if err != api.OK {
		checkRefused(t, s)
		if _, is := known[s]; is {
			t.Errorf("Parse(%q) = error %d", s, err)
		}
		return
	}
	if decode.Check(i) != api.OK || want(i) != s {
		t.Errorf("Parse(%q) = %+v, whose text is %q", s, i, want(i))
	}
}

// P10.1, T7: texts that are far too long.
func TestParseOfLongTexts(t *testing.T) {
	const many = 1 << 20
	for _, s := range []string{
		strings.Repeat("A", many),
		strings.Repeat("1", many),
		strings.Repeat("1,", many),
		strings.Repeat("+", many),
		strings.Repeat("\xff", many),
		"DB " + strings.Repeat("0,", many) + "0",
		"DB 221,0" + strings.Repeat(",0", many),
		"LD A," + strings.Repeat("0", many) + "5",
		"NOP" + strings.Repeat(" ", many),
		strings.Repeat("NOP\n", many),
	} {
		checkRefused(t, s)
	}
}

// Rule 6: what is asked of several goroutines at once is answered alike.
func TestParseAtOnce(t *testing.T) {
	var all sync.WaitGroup
	for range 16 {
		all.Go(func() {
			for _, x := range examples {
				if i, err := text.Parse(x.s); err != api.OK || i.Len != len(x.b) {
					t.Errorf("Parse(%q) = %+v, error %d", x.s, i, err)
				}
			}
		})
	}
	all.Wait()
}

func FuzzParse(f *testing.F) {
	for _, x := range examples {
		f.Add(x.s)
	}
	for _, s := range noTexts {
		f.Add(s)
	}
	f.Fuzz(func(t *testing.T, s string) {
		i, err := text.Parse(s)
		if err != api.OK {
			checkRefused(t, s)
			return
		}
		if decode.Check(i) != api.OK || want(i) != s {
			t.Fatalf("Parse(%q) = %+v, whose text is %q", s, i, want(i))
		}
	})
}
