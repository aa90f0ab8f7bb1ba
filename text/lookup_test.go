package text_test

import (
	"testing"

	"pendulum/api"
	"pendulum/decode"
	"pendulum/text"
)

// Way 10: what the map has for texts without the numbers of operands.
func TestKnown(t *testing.T) {
	for _, x := range []struct {
		bare string
		i    api.Ins
	}{
		{"NOP", api.Ins{Len: 1}},
		{"LD A,", api.Ins{Op: 0x3e, Len: 2}},
		{"LD A,()", api.Ins{Op: 0x3a, Len: 3}},
		{"JR NZ,", api.Ins{Op: 0x20, Len: 2}},
		{"RST 56", api.Ins{Op: 0xff, Len: 1}},
		{"LD (IX),", api.Ins{Op: 0x36, Index: 1, Len: 4}},
		{"LD H,(IY)", api.Ins{Op: 0x66, Index: 2, Len: 3}},
		{"BIT 7,(HL)", api.Ins{Set: api.SetBits, Op: 0x7e, Len: 2}},
		{"SET 0,(IY),B", api.Ins{Set: api.SetBoth, Op: 0xc0, Index: 2, Len: 4}},
		{"OUT (C),0", api.Ins{Set: api.SetMore, Op: 0x71, Len: 2}},
	} {
		if i, is := text.Known(x.bare); !is || i != x.i {
			t.Errorf("Known(%q) = %+v, %t, want %+v", x.bare, i, is, x.i)
		}
	}
	for _, s := range []string{"", "LD A,5", "LD A", "LD A,05", "RST", "JR NZ,+", "DB", "DB ", "DB 221,0", "LD IX,IX", "nop"} {
		if i, is := text.Known(s); is || i != (api.Ins{}) {
			t.Errorf("Known(%q) = %+v, %t", s, i, is)
		}
	}
}

// Way 10: an instruction whose operands are 0 is had by its text without these.
func TestKnownOfAllOperations(t *testing.T) {
	for i := range eachOperation {
		bare := texts[i.Set][i.Index][i.Op]
		if bare == "" {
			continue
		}
		bare = withoutOperands(bare)
		if got, is := text.Known(bare); !is || got != i || decode.Check(got) != api.OK {
			t.Errorf("Known(%q) = %+v, %t, want %+v", bare, got, is, i)
		}
	}
}
