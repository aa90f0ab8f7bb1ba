package bank_test

import (
	"testing"

	"pendulum/api"
	"pendulum/bank"
)

// chance answers numbers that look like chance, always the same.
type chance uint64

func (c *chance) next(below int) int {
	*c = *c*6364136223846793005 + 1442695040888963407
	return int(*c>>33) % below
}

// P13.3: what is put is read, by whatever slot that bank is seen, and nothing
// else changes; what can only be read never changes.
func TestMemoryAsAModel(t *testing.T) {
	c := chance(13)
	for range 12 {
		o := new(model)
		m := made(t, everywhere()...)
		for _, p := range everywhere() {
			copy(o.banks[p.Bank][p.At:], p.Bytes)
		}
		for range 20000 {
			stepped(t, &c, o, m)
		}
		o.looked(t, m)
		n, err := bank.Read(m.Bytes())
		if err != api.OK || n.Page() != o.page {
			t.Fatalf("Read of Bytes: error %d", err)
		}
		o.looked(t, n)
	}
}

// stepped does one thing by chance, to the model too.
func stepped(t *testing.T, c *chance, o *model, m *bank.Mem) {
	t.Helper()
	at, v := uint16(c.next(1<<16)), byte(c.next(256))
	number, place := slots(o.page)[at>>14], int(at)%16384
	switch c.next(8) {
	case 0:
		tell(t, o, m, c.next(2) == 0, v)
	case 1, 2, 3, 4:
		if m.Put(at, v) != (number < 8) {
			t.Fatalf("Put(%04x, %d) of %02x is not %t", at, v, o.page, number < 8)
		}
		if number < 8 {
			o.banks[number][place] = v
		}
	case 5:
		if bank, p := m.Where(at); bank != number || p != place {
			t.Fatalf("Where(%04x) of %02x = %d, %d", at, o.page, bank, p)
		}
	}
	number = slots(o.page)[at>>14] // it may have been told
	if got := m.Byte(at); got != o.banks[number][place] {
		t.Fatalf("Byte(%04x) of %02x = %d, want %d", at, o.page, got, o.banks[number][place])
	}
	if m.Page() != o.page {
		t.Fatalf("Page() = %02x, want %02x", m.Page(), o.page)
	}
}

// tell tells v; locks are rare, so that pages change for long.
func tell(t *testing.T, o *model, m *bank.Mem, more bool, v byte) {
	t.Helper()
	want := api.OK
	if bits(o.page.A, 0x20) {
		want = api.ErrState
	} else if more {
		o.page.B = v
	} else {
		if v%64 != 0x27 {
			v &^= 0x20
		}
		o.page.A = v
	}
	if err := m.Tell(more, v); err != want {
		t.Fatalf("Tell(%t, %02x) of %02x: error %d, want %d", more, v, o.page, err, want)
	}
}

// P13.3: each single put, of all slots of all that may be seen, changes that
// byte alone.
func TestPutChangesNothingElse(t *testing.T) {
	for b := range 8 {
		for _, a := range []byte{0, 1, 2, 3, 4, 5, 6, 7, 0x10} {
			p := api.Page{A: a, B: byte(b)}
			m := made(t, everywhere()...)
			told(t, m, p)
			o := new(model)
			for _, q := range everywhere() {
				copy(o.banks[q.Bank][q.At:], q.Bytes)
			}
			for slot, number := range slots(p) {
				place := 16383 - slot
				if m.Put(uint16(slot<<14|place), byte(240+slot)) != (number < 8) {
					t.Fatalf("Put to slot %d of %02x", slot, p)
				}
				if number < 8 {
					o.banks[number][place] = byte(240 + slot)
				}
			}
			o.looked(t, m)
		}
	}
}
