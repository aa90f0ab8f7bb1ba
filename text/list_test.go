package text_test

import (
	"bytes"
	"slices"
	"strings"
	"testing"

	"pendulum/api"
	"pendulum/decode"
	"pendulum/text"
)

// allTexts answers all instructions' texts, and their bytes. Behind a lone
// prefix stands another, or a byte that makes it one.
func allTexts() (l []string, b []byte) {
	for i := range eachInstruction {
		if i.Len == 1 && (i.Op == 0xdd || i.Op == 0xfd) {
			continue
		}
		own, _ := decode.Bytes(i)
		l, b = append(l, want(i)), append(b, own...)
	}
	l = append(l, "DB 221", "DB 253", "DB 221", "DB 221", "LDIR")
	return l, append(b, 0xdd, 0xfd, 0xdd, 0xdd, 0xed, 0xb0)
}

// P10.1
func TestList(t *testing.T) {
	for _, x := range []struct {
		b    string
		want []string
		n    int
	}{
		{"", nil, 0},
		{"\xdd", nil, 0},
		{"\x3e", nil, 0},
		{"\x00", []string{"NOP"}, 1},
		{"\x01\x34\x12\xed\xb0", []string{"LD BC,4660", "LDIR"}, 5},
		{"\x00\xcb\x11\xc3\x01", []string{"NOP", "RL C"}, 3},
		{"\x00\xcb", []string{"NOP"}, 1},
		{"\xdd\xdd\x21\x01\x00", []string{"DB 221", "LD IX,1"}, 5},
		{"\xdd\xed\xb0", []string{"DB 221", "LDIR"}, 3},
		{"\xfd\xdd", []string{"DB 253"}, 1},
		{"\xdd\x00\xed\x00\xc9", []string{"DB 221,0", "DB 237,0", "RET"}, 5},
		{"\x18\xfe\x18", []string{"JR -2"}, 2},
	} {
		l, n := text.List([]byte(x.b))
		if !slices.Equal(l, x.want) || n != x.n {
			t.Errorf("List(% x) = %q, %d, want %q, %d", x.b, l, n, x.want, x.n)
		}
		b, err := text.Make(x.want)
		if err != api.OK || string(b) != x.b[:x.n] {
			t.Errorf("Make(%q) = % x, error %d", x.want, b, err)
		}
	}
}

// P10.1, P10.2: of all instructions, one behind the other.
func TestListAndMakeOfAll(t *testing.T) {
	all, b := allTexts()
	if got, err := text.Make(all); err != api.OK || !bytes.Equal(got, b) {
		t.Errorf("Make of all: %d bytes, error %d, want %d", len(got), err, len(b))
	}
	if l, n := text.List(b); n != len(b) || !slices.Equal(l, all) {
		t.Errorf("List of all: %d texts of %d bytes, want %d of %d", len(l), n, len(all), len(b))
	}
}

// P10.2: of any bytes, begun and ended anywhere.
func TestMakeOfListIsTheBytes(t *testing.T) {
	_, b := allTexts()
	for from := 0; from < len(b); from += 19 {
		checkList(t, b[from:min(from+40, len(b))])
	}
	for cut := range 40 {
		checkList(t, b[:len(b)-cut])
	}
}

func checkList(t *testing.T, b []byte) {
	t.Helper()
	l, n := text.List(b)
	all, count := decode.All(b)
	if n != count || len(l) != len(all) {
		t.Fatalf("List(% x): %d texts of %d bytes, want %d of %d", b, len(l), n, len(all), count)
	}
	for at, i := range all {
		if l[at] != want(i) {
			t.Fatalf("List(% x): %q at %d, want %q", b, l[at], at, want(i))
		}
	}
	if made, err := text.Make(l); err != api.OK || !bytes.Equal(made, b[:n]) {
		t.Fatalf("Make of List(% x) = % x, error %d", b, made, err)
	}
}

// P10.1
func TestMakeRefuses(t *testing.T) {
	for _, s := range noTexts {
		for _, l := range [][]string{{s}, {s, "NOP"}, {"NOP", s}, {"LD A,5", s, "NOP"}, {s, s}} {
			if b, err := text.Make(l); err != api.ErrText || len(b) != 0 {
				t.Errorf("Make(%q) = % x, error %d", l, b, err)
			}
		}
	}
	if b, err := text.Make(nil); err != api.OK || len(b) != 0 {
		t.Errorf("Make of nothing = % x, error %d", b, err)
	}
	if b, err := text.Make([]string{}); err != api.OK || len(b) != 0 {
		t.Errorf("Make of nothing = % x, error %d", b, err)
	}
	if b, err := text.Make([]string{"NOP\nNOP"}); err != api.ErrText || len(b) != 0 {
		t.Errorf("Make of two in one = % x, error %d", b, err)
	}
}

// P10.1: texts stand alone, so that a prefix ahead of another instruction is taken too.
func TestMakeOfAPrefixAheadOfAnother(t *testing.T) {
	if b, err := text.Make([]string{"DB 221", "NOP", "DB 253"}); err != api.OK || string(b) != "\xdd\x00\xfd" {
		t.Errorf("% x, error %d", b, err)
	}
}

// P10.1, rule 3: what is handed in isn't changed, nor its spare room read.
func TestHandedInStays(t *testing.T) {
	b := []byte{0xdd, 0x00, 0x3e, 0x05, 0xdd, 0x36, 0x01, 0x02}
	for n := range b {
		before := bytes.Clone(b)
		l, m := text.List(b[:n:len(b)])
		if m > n || !bytes.Equal(b, before) {
			t.Errorf("List of %d: %q, %d, % x", n, l, m, b)
		}
	}
	list := []string{"NOP", "LD A,5", "DB 221", "nothing"}
	before := slices.Clone(list)
	text.Make(list[:2])
	text.Make(list)
	if !slices.Equal(list, before) {
		t.Errorf("Make changed %q to %q", before, list)
	}
}

// Rule 3
func TestAnswersAreNewMemory(t *testing.T) {
	b := []byte("\x01\x34\x12\xed\xb0\xdd\x00")
	l, _ := text.List(b)
	clear(l[:cap(l)])
	l, n := text.List(b)
	if n != len(b) || strings.Join(l, ";") != "LD BC,4660;LDIR;DB 221,0" {
		t.Errorf("an answer is another's memory: %q", l)
	}
	made, _ := text.Make(l)
	clear(made[:cap(made)])
	if made, err := text.Make(l); err != api.OK || !bytes.Equal(made, b) {
		t.Errorf("an answer is another's memory: % x", made)
	}
	i, _ := text.Parse("LD A,(IX+5)")
	i.Disp = 9
	if j, _ := text.Parse("LD A,(IX+5)"); j.Disp != 5 {
		t.Errorf("an answer is another's memory: %+v", j)
	}
}

func FuzzList(f *testing.F) {
	for _, x := range examples {
		f.Add([]byte(x.b))
	}
	f.Add([]byte("\xdd\xdd\xfd\xed\xb0\xdd"))
	f.Fuzz(func(t *testing.T, b []byte) {
		checkList(t, b)
	})
}
