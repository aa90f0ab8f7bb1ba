package step_test

import (
	"math"
	"strings"
	"testing"

	"pendulum/api"
	"pendulum/regs"
	"pendulum/step"
)

// before are the registers ahead of each written row, but what it says itself.
var before = api.Regs{
	A: 0x11, F: 0x00, B: 0x22, C: 0x33, D: 0x44, E: 0x55, H: 0x66, L: 0x77, I: 0x88, R: 0xfe,
	IX: 0x1a1b, IY: 0x2a2b, SP: 0x3a3b, PC: 0x0100, WZ: 0x4a4b, AF2: 0x5a5b, BC2: 0x6a6b, DE2: 0x7a7b, HL2: 0x8a8b,
	IFF2: true, IM: 1, Late: true,
}

// writtenRows are instructions (their bytes), registers ahead of them, their
// requests, and what is another behind them but PC, R and Late.
var writtenRows = []struct{ bytes, ahead, row, behind string }{
	{"00", "", "f", ""},
	{"08", "AF=1234 AF2=5678", "f", "AF=5678 AF2=1234"},
	{"10 fe", "B=02", "f i1 n i5", "B=01 PC=0100 WZ=0100"},
	{"10 fe", "B=01", "f i1 n", "B=00"},
	{"10 80", "B=00 F=ff", "f i1 n i5", "B=ff PC=0082 WZ=0082"},
	{"18 7f", "", "f n i5", "PC=0181 WZ=0181"},
	{"18 fe", "PC=0000", "f n i5", "PC=0000 WZ=0000"},
	{"18 00", "PC=fffe", "f n i5", "PC=0000 WZ=0000"},
	{"dd 18 fd", "", "f f n i5", "PC=0100 WZ=0100"},
	{"20 05", "F=40", "f n", ""},
	{"20 05", "F=bf", "f n i5", "PC=0107 WZ=0107"},
	{"28 05", "F=40", "f n i5", "PC=0107 WZ=0107"},
	{"30 05", "F=01", "f n", ""},
	{"38 00", "F=01", "f n i5", "PC=0102 WZ=0102"},

	{"01 34 12", "", "f n n", "BC=1234"},
	{"31 34 12", "", "f n n", "SP=1234"},
	{"21 34 12", "", "f n n", "HL=1234"},
	{"fd 21 34 12", "", "f f n n", "IY=1234"},
	{"09", "HL=0fff BC=0001", "f i7", "HL=1000 WZ=1000 F=10"},
	{"29", "HL=ffff F=c4", "f i7", "HL=fffe WZ=0000 F=fd"},
	{"dd 29", "IX=8001", "f f i7", "IX=0002 WZ=8002 F=01"},
	{"fd 39", "IY=1000 SP=0234", "f f i7", "IY=1234 WZ=1001 F=00"},

	{"02", "A=5a BC=12ff", "f w12ff:5a", "WZ=5a00"},
	{"12", "A=5a DE=ffff", "f wffff:5a", "WZ=5a00"},
	{"0a", "BC=ffff", "f rffff=33", "A=33 WZ=0000"},
	{"1a", "DE=8000", "f r8000=33", "A=33 WZ=8001"},
	{"22 ff ff", "HL=1234", "f n n wffff:34 w0000:12", "WZ=0000"},
	{"fd 22 00 80", "IY=1234", "f f n n w8000:34 w8001:12", "WZ=8001"},
	{"2a 00 80", "", "f n n r8000=34 r8001=12", "HL=1234 WZ=8001"},
	{"dd 2a 00 80", "", "f f n n r8000=34 r8001=12", "IX=1234 WZ=8001"},
	{"32 ff 12", "A=5a", "f n n w12ff:5a", "WZ=5a00"},
	{"3a ff ff", "", "f n n rffff=33", "A=33 WZ=0000"},

	{"03", "BC=ffff F=00", "f i2", "BC=0000"},
	{"33", "SP=00ff", "f i2", "SP=0100"},
	{"3b", "SP=0000", "f i2", "SP=ffff"},
	{"dd 2b", "IX=0000", "f f i2", "IX=ffff"},
	{"04", "B=ff F=01", "f", "B=00 F=51"},
	{"3d", "A=00", "f", "A=ff F=ba"},
	{"34", "HL=8000 F=01", "f r8000=ff i1 w8000:00", "F=51"},
	{"dd 35 ff", "IX=8000", "f f n i5 r7fff=00 i1 w7fff:ff", "WZ=7fff F=ba"},
	{"fd 34 01", "IY=ffff", "f f n i5 r0000=7f i1 w0000:80", "WZ=0000 F=94"},
	{"dd 24", "IX=ff12", "f f", "IX=0012 F=50"},
	{"fd 2d", "IY=1200", "f f", "IY=12ff F=ba"},
	{"3e 05", "", "f n", "A=05"},
	{"36 07", "HL=8000", "f n w8000:07", ""},
	{"dd 36 80 07", "IX=8000", "f f n n i2 w7f80:07", "WZ=7f80"},
	{"dd 26 07", "IX=1234", "f f n", "IX=0734"},

	{"07", "A=81", "f", "A=03 F=01"},
	{"0f", "A=01 F=c4", "f", "A=80 F=c5"},
	{"17", "A=80", "f", "A=00 F=01"},
	{"1f", "A=00 F=01", "f", "A=80 F=00"},
	{"27", "A=9a", "f", "A=00 F=55"},
	{"2f", "A=28", "f", "A=d7 F=12"},
	{"37", "A=28 F=c4", "f", "F=ed"},
	{"3f", "A=28 F=01", "f", "F=38"},

	{"76", "", "f", "Halt=1"},
	{"dd 76", "", "f f", "Halt=1"},
	{"41", "C=99", "f", "B=99"},
	{"46", "HL=8000", "f r8000=12", "B=12"},
	{"74", "HL=8000", "f w8000:80", ""},
	{"66", "HL=8000", "f r8000=12", "H=12"},
	{"dd 66 01", "IX=8000", "f f n i5 r8001=12", "H=12 WZ=8001"},
	{"fd 75 01", "IY=8000 L=99", "f f n i5 w8001:99", "WZ=8001"},
	{"dd 65", "IX=1234", "f f", "IX=3434"},
	{"fd 7c", "IY=1234", "f f", "A=12"},
	{"dd 40", "", "f f", ""},

	{"96", "A=00 HL=8000", "f r8000=01", "A=ff F=bb"},
	{"8e", "A=7f HL=8000 F=01", "f r8000=00", "A=80 F=94"},
	{"fe 28", "A=10", "f n", "F=bb"},
	{"dd b6 02", "A=00 IX=8000 H=99", "f f n i5 r8002=01", "A=01 F=00 WZ=8002"},
	{"fd a5", "A=ff IY=1234", "f f", "A=34 F=30"},
	{"ee ff", "A=ff", "f n", "A=00 F=44"},

	{"c0", "F=40", "f i1", ""},
	{"c0", "SP=ffff", "f i1 rffff=34 r0000=12", "SP=0001 PC=1234 WZ=1234"},
	{"f8", "F=80", "f i1 r3a3b=34 r3a3c=12", "SP=3a3d PC=1234 WZ=1234"},
	{"c9", "SP=8000", "f r8000=34 r8001=12", "SP=8002 PC=1234 WZ=1234"},
	{"f1", "SP=8000", "f r8000=34 r8001=12", "AF=1234 SP=8002"},
	{"fd e1", "SP=8000", "f f r8000=34 r8001=12", "IY=1234 SP=8002"},
	{"f5", "AF=1234 SP=0001", "f i1 w0000:12 wffff:34", "SP=ffff"},
	{"dd e5", "IX=1234 SP=8000", "f f i1 w7fff:12 w7ffe:34", "SP=7ffe"},
	{"d9", "", "f", "BC=6a6b DE=7a7b HL=8a8b BC2=2233 DE2=4455 HL2=6677"},
	{"eb", "", "f", "DE=6677 HL=4455"},
	{"dd eb", "", "f f", "DE=6677 HL=4455"},
	{"fd d9", "", "f f", "BC=6a6b DE=7a7b HL=8a8b BC2=2233 DE2=4455 HL2=6677"},
	{"e9", "HL=1234", "f", "PC=1234"},
	{"fd e9", "IY=1234", "f f", "PC=1234"},
	{"f9", "HL=1234", "f i2", "SP=1234"},
	{"dd f9", "IX=1234", "f f i2", "SP=1234"},
	{"c3 34 12", "", "f n n", "PC=1234 WZ=1234"},
	{"ca 34 12", "", "f n n", "WZ=1234"},
	{"ea 34 12", "F=04", "f n n", "PC=1234 WZ=1234"},
	{"cd 34 12", "SP=8000", "f n n i1 w7fff:01 w7ffe:03", "SP=7ffe PC=1234 WZ=1234"},
	{"d4 34 12", "F=01", "f n n", "WZ=1234"},
	{"d4 34 12", "SP=0001", "f n n i1 w0000:01 wffff:03", "SP=ffff PC=1234 WZ=1234"},
	{"c7", "SP=8000 PC=ffff", "f i1 w7fff:00 w7ffe:00", "SP=7ffe PC=0000 WZ=0000"},
	{"ff", "SP=8000", "f i1 w7fff:01 w7ffe:01", "SP=7ffe PC=0038 WZ=0038"},
	{"d3 ff", "A=12", "f n o12ff:12", "WZ=1200"},
	{"db ff", "A=12", "f n p12ff=34", "A=34 WZ=1300"},
	{"e3", "HL=1234 SP=ffff", "f rffff=78 r0000=56 i1 w0000:12 wffff:34 i2", "HL=5678 WZ=5678"},
	{"dd e3", "IX=1234 SP=8000", "f f r8000=78 r8001=56 i1 w8001:12 w8000:34 i2", "IX=5678 WZ=5678"},
	{"f3", "IFF1=1", "f", "IFF1=0 IFF2=0"},
	{"fb", "IFF2=0", "f", "IFF1=1 IFF2=1 Late=1"},
	{"dd fb", "", "f f", "IFF1=1 IFF2=1 Late=1"},

	{"cb 00", "B=81", "f f", "B=03 F=05"},
	{"cb 36", "HL=8000", "f f r8000=00 i1 w8000:01", "F=00"},
	{"cb 7e", "HL=8000 WZ=28ff F=01", "f f r8000=80 i1", "F=b9"},
	{"cb 47", "A=28", "f f", "F=7c"},
	{"cb 87", "A=ff F=ff", "f f", "A=fe"},
	{"cb fe", "HL=8000", "f f r8000=00 i1 w8000:80", ""},
	{"fd cb 03 c0", "IY=8000", "f f n n i2 r8003=00 i1 w8003:01", "B=01 WZ=8003"},
	{"dd cb 00 84", "IX=8000", "f f n n i2 r8000=ff i1 w8000:fe", "H=fe WZ=8000"},
	{"dd cb 80 06", "IX=8000", "f f n n i2 r7f80=81 i1 w7f80:03", "WZ=7f80 F=05"},
	{"dd cb ff 46", "IX=2901", "f f n n i2 r2900=01 i1", "WZ=2900 F=38"},
	{"dd cb ff 40", "IX=2901", "f f n n i2 r2900=01 i1", "WZ=2900 F=38"},

	{"ed 40", "BC=12ff F=ff", "f f p12ff=00", "B=00 WZ=1300 F=45"},
	{"ed 70", "BC=ffff", "f f pffff=80", "WZ=0000 F=80"},
	{"ed 60", "BC=1234", "f f p1234=28", "H=28 WZ=1235 F=2c"},
	{"ed 79", "BC=12ff A=5a", "f f o12ff:5a", "WZ=1300"},
	{"ed 71", "BC=12ff", "f f o12ff:00", "WZ=1300"},
	{"ed 42", "HL=0000 BC=0001", "f f i7", "HL=ffff WZ=0001 F=bb"},
	{"ed 7a", "HL=7fff SP=0000 F=01", "f f i7", "HL=8000 WZ=8000 F=94"},
	{"ed 43 ff ff", "BC=1234", "f f n n wffff:34 w0000:12", "WZ=0000"},
	{"ed 7b 00 80", "", "f f n n r8000=34 r8001=12", "SP=1234 WZ=8001"},
	{"ed 63 00 80", "HL=1234", "f f n n w8000:34 w8001:12", "WZ=8001"},
	{"ed 44", "A=80", "f f", "A=80 F=87"},
	{"ed 7c", "A=01", "f f", "A=ff F=bb"},
	{"ed 45", "SP=8000 IFF1=0 IFF2=1", "f f r8000=34 r8001=12", "SP=8002 PC=1234 WZ=1234 IFF1=1"},
	{"ed 4d", "SP=8000 IFF1=1 IFF2=0", "f f r8000=34 r8001=12", "SP=8002 PC=1234 WZ=1234 IFF1=0"},
	{"ed 46", "", "f f", "IM=0"},
	{"ed 4e", "", "f f", "IM=0"},
	{"ed 56", "IM=0", "f f", "IM=1"},
	{"ed 7e", "", "f f", "IM=2"},
	{"ed 47", "A=5a", "f f i1", "I=5a"},
	{"ed 4f", "A=5a", "f f i1", "R=5a"},
	{"ed 57", "I=00 F=ff", "f f i1", "A=00 F=45"},
	{"ed 57", "I=a8 IFF1=1 IFF2=0", "f f i1", "A=a8 F=a8"},
	{"ed 5f", "R=7f IFF2=0", "f f i1", "A=01 F=00"},
	{"ed 6f", "A=12 HL=8000", "f f r8000=34 i4 w8000:42", "A=13 WZ=8001 F=00"},
	{"ed 67", "A=12 HL=ffff F=01", "f f rffff=34 i4 wffff:23", "A=14 WZ=0000 F=05"},

	{"ed a0", "HL=8000 DE=ffff BC=0002 A=01", "f f r8000=07 wffff:07 i2", "HL=8001 DE=0000 BC=0001 F=0c"},
	{"ed a8", "HL=8000 DE=0000 BC=0001 A=01 F=c1", "f f r8000=01 w0000:01 i2", "HL=7fff DE=ffff BC=0000 F=e1"},
	{"ed b0", "HL=8000 DE=9000 BC=0002 A=01", "f f r8000=07 w9000:07 i2 i5", "HL=8001 DE=9001 BC=0001 F=0c PC=0100 WZ=0101"},
	{"ed b0", "HL=8000 DE=9000 BC=0001 A=01", "f f r8000=07 w9000:07 i2", "HL=8001 DE=9001 BC=0000 F=08"},
	{"ed b8", "HL=8000 DE=9000 BC=0000 A=00", "f f r8000=00 w9000:00 i2 i5", "HL=7fff DE=8fff BC=ffff F=04 PC=0100 WZ=0101"},
	{"ed a1", "HL=8000 BC=0001 A=07 WZ=ffff", "f f r8000=07 i5", "HL=8001 BC=0000 WZ=0000 F=42"},
	{"ed a9", "HL=8000 BC=0000 A=08 WZ=0000 F=01", "f f r8000=00 i5", "HL=7fff BC=ffff WZ=ffff F=0f"},
	{"ed b1", "HL=8000 BC=0002 A=07", "f f r8000=07 i5", "HL=8001 BC=0001 WZ=4a4c F=46"},
	{"ed b1", "HL=8000 BC=0002 A=08", "f f r8000=00 i5 i5", "HL=8001 BC=0001 F=0e PC=0100 WZ=0101"},
	{"ed b9", "HL=8000 BC=0001 A=08", "f f r8000=00 i5", "HL=7fff BC=0000 WZ=4a4a F=0a"},
	{"ed a2", "HL=8000 BC=02ff", "f f i1 p02ff=80 w8000:80", "HL=8001 B=01 WZ=0300 F=02"},
	{"ed aa", "HL=8000 BC=0100", "f f i1 p0100=01 w8000:01", "HL=7fff B=00 WZ=00ff F=55"},
	{"ed b2", "HL=8000 BC=02fe", "f f i1 p02fe=00 w8000:00 i5", "HL=8001 B=01 PC=0100 WZ=0101 F=04"},
	{"ed ba", "HL=8000 BC=0110", "f f i1 p0110=00 w8000:00", "HL=7fff B=00 WZ=010f F=40"},
	{"ed a3", "HL=80ff BC=0210", "f f i1 r80ff=12 o0110:12", "HL=8100 B=01 WZ=0111 F=04"},
	{"ed ab", "HL=8000 BC=0000", "f f i1 r8000=80 off00:80", "HL=7fff B=ff WZ=feff F=bb"},
	{"ed b3", "HL=8000 BC=02ff", "f f i1 r8000=00 o01ff:00 i5", "HL=8001 B=01 PC=0100 WZ=0101 F=04"},
	{"ed bb", "HL=8000 BC=01ff", "f f i1 r8000=00 o00ff:00", "HL=7fff B=00 WZ=00fe F=40"},

	{"ed 00", "", "f f", ""},
	{"ed 7f", "", "f f", ""},
	{"ed 80", "", "f f", ""},
	{"ed a4", "", "f f", ""},
	{"ed dd", "", "f f", ""},
	{"ed ff", "", "f f", ""},
}

// bytesOf reads bytes that are told by digits with blanks between.
func bytesOf(list string) (b []byte) {
	for _, digits := range strings.Fields(list) {
		b = append(b, byte(hex(digits)))
	}
	return b
}

// peeked is the second of an instruction's bytes; 0 stands behind one of one byte.
func peeked(b []byte) byte {
	return append(b[1:len(b):len(b)], 0)[0]
}

// P11.1
func TestWrittenRows(t *testing.T) {
	for _, x := range writtenRows {
		r, b := with(before, x.ahead), bytesOf(x.bytes)
		asked, got := written(x.row, r.PC, b)
		after := r
		after.PC += uint16(len(b))
		after.R = refreshed(r.R, fetches(asked))
		after.Late = false
		after = with(after, x.behind)
		name := x.bytes + " of " + x.ahead
		checkRow(t, name, nextOf(r, peeked(b)), asked, got, after)
		checkTooLong(t, name, nextOf(r, peeked(b)), got)
	}
}

func fetches(asked []api.Req) (count int) {
	for _, q := range asked {
		if q.Kind == api.ReqFetch || q.Kind == api.ReqAck {
			count++
		}
	}
	return count
}

// P11.1: the chapter's examples, of Reset.
func TestExamples(t *testing.T) {
	r := regs.Reset()
	checkRow(t, "3e 5", nextOf(r, 5), []api.Req{{Kind: api.ReqFetch, T: 4}, {Kind: api.ReqRead, Addr: 1, T: 3}}, []byte{0x3e, 5}, with(r, "A=05 PC=2 R=1"))
	checkRow(t, "dd, peek dd", nextOf(r, 0xdd), []api.Req{{Kind: api.ReqFetch, T: 4}}, []byte{0xdd}, with(r, "PC=1 R=1 Late=1"))
	r = with(r, "HL=8000 DE=9000 BC=0002")
	asked, got := written("f f r8000=07 w9000:07 i2 i5", 0, []byte{0xed, 0xb0})
	checkRow(t, "ed b0", nextOf(r, 0xb0), asked, got, with(r, "PC=0 BC=1 HL=8001 DE=9001 R=2 WZ=1 F=e5"))
}

// P11.1: just dd, ed and fd behind dd or fd make a lone prefix, and just by peek.
func TestLonePrefixes(t *testing.T) {
	for _, first := range []byte{0xdd, 0xfd} {
		for peek := range 256 {
			lone := peek == 0xdd || peek == 0xed || peek == 0xfd
			q, s, done, e := step.Next(before, []byte{first}, byte(peek))
			if e != api.OK || done != lone {
				t.Errorf("%02x, peek %02x: %+v, %t, error %d", first, peek, q, done, e)
			}
			if want := with(before, "PC=0101 R=ff"); lone && (s != want || q != (api.Req{})) {
				t.Errorf("%02x, peek %02x: %+v, %+v, want %+v", first, peek, q, s, want)
			}
			if want := (api.Req{Kind: api.ReqFetch, Addr: 0x101, T: 4}); !lone && (q != want || s != (api.Regs{})) {
				t.Errorf("%02x, peek %02x: %+v, %+v", first, peek, q, s)
			}
			if lone {
				// Fetched behind dd or fd it does nothing, whatever was to be seen there.
				for _, seen := range []byte{0x00, 0xcb, 0xdd, 0xed, 0xfd} {
					got := []byte{first, byte(peek)}
					_, s, done, e = step.Next(before, got, seen)
					if want := with(before, "PC=0102 R=80 Late=0"); e != api.OK || !done || s != want {
						t.Errorf("% x, peek %02x: %+v, %t, error %d", got, seen, s, done, e)
					}
					checkTooLong(t, "two of them", nextOf(before, seen), got)
				}
			}
		}
	}
}

// P11.1: peek counts nowhere else.
func TestPeekCountsForNothingElse(t *testing.T) {
	for first := range 256 {
		for peek := range 256 {
			q, s, done, e := step.Next(before, []byte{byte(first)}, byte(peek))
			x, y, fin, f := step.Next(before, []byte{byte(first)}, 0)
			if first != 0xdd && first != 0xfd && (q != x || s != y || done != fin || e != f) {
				t.Errorf("%02x, peek %02x: %+v, %+v, %t, error %d", first, peek, q, s, done, e)
			}
		}
	}
	for _, b := range []string{"", "dd 7e", "dd cb 01", "fd 21 00", "dd 00"} {
		got := bytesOf(b)
		q, s, done, e := step.Next(before, got, 0xdd)
		x, y, fin, f := step.Next(before, got, 0)
		if q != x || s != y || done != fin || e != f || e != api.OK {
			t.Errorf("%s: %+v, %+v, %t, error %d", b, q, s, done, e)
		}
	}
}

// P11.1: while Halt a fetch at PC, whatever stands there, and nothing else.
func TestWhileHalt(t *testing.T) {
	r := with(before, "Halt=1 Late=1 PC=1234")
	fetch := []api.Req{{Kind: api.ReqFetch, Addr: 0x1234, T: 4}}
	for v := range 256 {
		for _, peek := range []byte{0x00, 0xcb, 0xdd, 0xed, 0xfd} {
			checkRow(t, "Halt", nextOf(r, peek), fetch, []byte{byte(v)}, with(r, "Late=0 R=ff"))
			checkTooLong(t, "Halt", nextOf(r, peek), []byte{byte(v)})
		}
	}
}

// P11.1: R's low seven bits are refreshed, its highest one stays.
func TestRefresh(t *testing.T) {
	for v := range 256 {
		r := before
		r.R = byte(v)
		// The last one's 0 comes back of an idle request.
		for came, count := range map[string]int{"00": 1, "cb c0": 2, "ed 00": 2, "dd 00": 2, "fd 23 00": 2} {
			got := bytesOf(came)
			_, s, done, e := step.Next(r, got, 0)
			if e != api.OK || !done || s.R != refreshed(r.R, count) {
				t.Errorf("R %02x behind %s: %02x, %t, error %d", v, came, s.R, done, e)
			}
		}
		if _, s, done, _ := step.Accept(r, []byte{0, 0, 0}); !done || s.R != refreshed(r.R, 1) {
			t.Errorf("R %02x behind an interrupt: %02x", v, s.R)
		}
	}
}

// writtenInterrupts are registers, the requests, and what is another but R and the switches.
var writtenInterrupts = []struct{ ahead, row, behind string }{
	{"IM=0 SP=8000", "a=ff w7fff:01 w7ffe:00", "SP=7ffe PC=0038 WZ=0038"},
	{"IM=0 SP=8000", "a=c7 w7fff:01 w7ffe:00", "SP=7ffe PC=0000 WZ=0000"},
	{"IM=0 SP=8000", "a=d5 w7fff:01 w7ffe:00", "SP=7ffe PC=0010 WZ=0010"},
	{"IM=1 SP=0001", "a=00 w0000:01 wffff:00", "SP=ffff PC=0038 WZ=0038"},
	{"IM=1 SP=8000 PC=1234 Halt=1", "a=ff w7fff:12 w7ffe:34", "SP=7ffe PC=0038 WZ=0038"},
	{"IM=2 I=40 SP=8000", "a=ff w7fff:01 w7ffe:00 r40ff=78 r4100=56", "SP=7ffe PC=5678 WZ=5678"},
	{"IM=2 I=ff SP=8000", "a=ff w7fff:01 w7ffe:00 rffff=78 r0000=56", "SP=7ffe PC=5678 WZ=5678"},
	{"IM=2 I=12 SP=0000 PC=ffff", "a=01 wffff:ff wfffe:ff r1201=00 r1202=80", "SP=fffe PC=8000 WZ=8000"},
}

// P11.1
func TestAccept(t *testing.T) {
	for _, x := range writtenInterrupts {
		for _, switches := range []string{"IFF1=1 IFF2=1 Late=0", "IFF1=0 IFF2=0 Late=1", "IFF1=0 IFF2=1 Halt=1", "IFF1=1 IFF2=0 Late=1"} {
			r := with(with(before, switches), x.ahead)
			asked, got := written(x.row, r.PC, nil)
			after := with(with(r, x.behind), "R=ff IFF1=0 IFF2=0 Late=0 Halt=0")
			checkRow(t, x.ahead, acceptOf(r), asked, got, after)
			checkTooLong(t, x.ahead, acceptOf(r), got)
		}
	}
}

// P11.1: of what comes back in IM 0 three bits count, of the others all do, or none.
func TestAcceptOfAllBytes(t *testing.T) {
	for v := range 256 {
		for im, want := range []uint16{uint16(v / 8 % 8 * 8), 56} {
			r := before
			r.IM = im
			if _, s, done, e := step.Accept(r, []byte{byte(v), 0, 0}); e != api.OK || !done || s.PC != want || s.WZ != want {
				t.Errorf("IM %d, %02x: %+v, %t, error %d", im, v, s, done, e)
			}
		}
		r := with(before, "IM=2 I=80")
		if q, _, _, e := step.Accept(r, []byte{byte(v), 0, 0}); e != api.OK || q.Addr != 0x8000+uint16(v) {
			t.Errorf("IM 2, %02x: %+v, error %d", v, q, e)
		}
	}
}

// P11.1: registers that may not be are the first error.
func TestRegistersThatMayNotBe(t *testing.T) {
	for _, im := range []int{-1, 3, math.MinInt, math.MaxInt} {
		r := before
		r.IM, r.IFF1, r.Late = im, true, false
		for _, got := range [][]byte{nil, {}, {0}, {0, 0}, {0xdd}, make([]byte, 100)} {
			for _, next := range []runner{nextOf(r, 0xdd), acceptOf(r)} {
				if q, s, done, e := next(got); e != api.ErrArg || done || q != (api.Req{}) || s != (api.Regs{}) {
					t.Errorf("IM %d, % x: %+v, %+v, %t, error %d", im, got, q, s, done, e)
				}
			}
		}
		if step.May(r) {
			t.Errorf("May of IM %d", im)
		}
	}
}

// P11.1: far too much came back.
func TestFarTooMuch(t *testing.T) {
	long := make([]byte, 1<<20)
	for _, next := range []runner{nextOf(before, 0), acceptOf(before), nextOf(with(before, "Halt=1"), 0)} {
		if q, s, done, e := next(long); e != api.ErrLong || done || q != (api.Req{}) || s != (api.Regs{}) {
			t.Errorf("%+v, %+v, %t, error %d", q, s, done, e)
		}
	}
}

// P11.1: nothing that came back is the same, be it nil or empty, with spare room or without.
func TestNothingCameBack(t *testing.T) {
	room := []byte{0x3e, 5, 6}
	want := api.Req{Kind: api.ReqFetch, Addr: 0x100, T: 4}
	for _, got := range [][]byte{nil, {}, room[:0], make([]byte, 0, 9)} {
		if q, _, done, e := step.Next(before, got, 0xdd); q != want || done || e != api.OK {
			t.Errorf("%+v, %t, error %d", q, done, e)
		}
	}
	if q, _, done, _ := step.Next(before, room[:1], 0); done || q != (api.Req{Kind: api.ReqRead, Addr: 0x101, T: 3}) {
		t.Errorf("%+v, %t", q, done)
	}
	if string(room) != "\x3e\x05\x06" {
		t.Errorf("what was handed in is % x", room)
	}
}

// P11.2
func TestMay(t *testing.T) {
	for im := range 3 {
		for bits := range 16 {
			r := api.Regs{IM: im, IFF1: bits&1 != 0, IFF2: bits&2 != 0, Late: bits&4 != 0, Halt: bits&8 != 0}
			if may := step.May(r); may != (bits&5 == 1) {
				t.Errorf("May(%+v) = %t", r, may)
			}
		}
	}
}

// P11.2
func TestCheck(t *testing.T) {
	lasts := map[int]int{api.ReqFetch: 4, api.ReqRead: 3, api.ReqWrite: 3, api.ReqIn: 4, api.ReqOut: 4, api.ReqAck: 7}
	for _, kind := range []int{math.MinInt, -7, -1, 0, 1, 2, 3, 4, 5, 6, 7, 8, 9, 263, math.MaxInt} {
		for _, long := range []int{math.MinInt, -4, -1, 0, 1, 2, 3, 4, 5, 6, 7, 8, 9, 259, math.MaxInt} {
			for _, at := range []uint16{0, 1, 0xffff} {
				for _, v := range []byte{0, 1, 0xff} {
					is := lasts[kind] == long && long != 0 && (v == 0 || kind == api.ReqWrite || kind == api.ReqOut)
					if kind == api.ReqIdle {
						is = long >= 1 && long <= 7 && at == 0 && v == 0
					}
					q := api.Req{Kind: kind, Addr: at, Value: v, T: long}
					if e := step.Check(q); (e == api.OK) != is || e != api.OK && e != api.ErrArg {
						t.Errorf("Check(%+v) = %d", q, e)
					}
				}
			}
		}
	}
}

// P11.2
func TestSame(t *testing.T) {
	a := api.Req{Kind: api.ReqWrite, Addr: 0x1234, Value: 5, T: 3}
	if !step.Same(a, a) || !step.Same(api.Req{}, api.Req{}) {
		t.Error("one isn't the same as itself")
	}
	for _, b := range []api.Req{
		{Kind: api.ReqRead, Addr: 0x1234, Value: 5, T: 3},
		{Kind: api.ReqWrite, Addr: 0x1235, Value: 5, T: 3},
		{Kind: api.ReqWrite, Addr: 0x0034, Value: 5, T: 3},
		{Kind: api.ReqWrite, Addr: 0x1234, Value: 4, T: 3},
		{Kind: api.ReqWrite, Addr: 0x1234, Value: 5, T: 4},
		{},
	} {
		if step.Same(a, b) || step.Same(b, a) {
			t.Errorf("%+v is the same as %+v", a, b)
		}
	}
}
