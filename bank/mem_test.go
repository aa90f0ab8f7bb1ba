package bank_test

import (
	"bytes"
	"math"
	"testing"

	"pendulum/api"
	"pendulum/bank"
)

func made(t *testing.T, l ...api.Patch) *bank.Mem {
	t.Helper()
	m, err := bank.New(l)
	if err != api.OK || m == nil {
		t.Fatalf("New of %d patches: error %d", len(l), err)
	}
	return m
}

// told tells A and B, whatever they are: B ahead, for A may be a lock.
func told(t *testing.T, m *bank.Mem, p api.Page) {
	t.Helper()
	if err := m.Tell(true, p.B); err != api.OK {
		t.Fatalf("Tell(true, %02x): error %d", p.B, err)
	}
	if err := m.Tell(false, p.A); err != api.OK {
		t.Fatalf("Tell(false, %02x): error %d", p.A, err)
	}
	if got := m.Page(); got != p {
		t.Fatalf("Page() = %02x, want %02x", got, p)
	}
}

// model is a memory of its own: a bank a row.
type model struct {
	page  api.Page
	banks [12][16384]byte
}

// looked looks at all places of all banks.
func (o *model) looked(t *testing.T, m *bank.Mem) {
	t.Helper()
	for number := range o.banks {
		for place, want := range &o.banks[number] {
			if v := m.In(number, place); v != want {
				t.Fatalf("In(%d, %d) = %d, want %d", number, place, v, want)
			}
		}
	}
}

// everywhere answers patches of two bytes a bank's quarter, none of them as another.
func everywhere() (l []api.Patch) {
	for number := range 12 {
		for quarter := range 4 {
			b := []byte{byte(1 + 4*number + quarter), byte(101 + 4*number + quarter)}
			l = append(l, api.Patch{Bank: number, At: 4096 * quarter, Bytes: b})
		}
	}
	return l
}

// P13.1, P13.2
func TestNewIsOfZero(t *testing.T) {
	m := made(t)
	new(model).looked(t, m)
	if p := m.Page(); p != (api.Page{}) {
		t.Errorf("Page() = %02x", p)
	}
	for at := range 1 << 16 {
		if v := m.Byte(uint16(at)); v != 0 {
			t.Fatalf("Byte(%d) = %d", at, v)
		}
	}
}

// P13.1: one behind the other; bytes of 0 are put, too.
func TestNewPutsPatches(t *testing.T) {
	m := made(t,
		api.Patch{Bank: 5, At: 100, Bytes: []byte{1, 2, 3, 4}},
		api.Patch{Bank: 8, Bytes: []byte{9}},
		api.Patch{Bank: 5, At: 101, Bytes: []byte{7, 0}},
		api.Patch{Bank: 11, At: 16382, Bytes: []byte{5, 6}},
		api.Patch{Bank: 0, At: 16383, Bytes: []byte{8}},
		api.Patch{Bank: 3, At: 16384},
		api.Patch{Bank: 7, At: 3, Bytes: nil},
		api.Patch{Bank: 5, At: 103, Bytes: []byte{10, 11}})
	var o model
	copy(o.banks[5][100:], []byte{1, 7, 0, 10, 11})
	o.banks[8][0] = 9
	o.banks[11][16382], o.banks[11][16383] = 5, 6
	o.banks[0][16383] = 8
	o.looked(t, m)
	if p := m.Page(); p != (api.Page{}) {
		t.Errorf("Page() = %02x", p)
	}
}

// P13.1
func TestNewFillsABank(t *testing.T) {
	var o model
	var l []api.Patch
	for number := range o.banks {
		for place := range o.banks[number] {
			o.banks[number][place] = byte(place*7 + place>>8 + number)
		}
		l = append(l, api.Patch{Bank: number, Bytes: o.banks[number][:]})
	}
	o.looked(t, made(t, l...))
}

// P13.1
func TestNewOfWhatMayNotBe(t *testing.T) {
	good := api.Patch{Bank: 5, At: 100, Bytes: []byte{1, 2}}
	for _, p := range append(refused(4), patch(12, 0, 0), patch(-1, 0, 1), patch(1<<32, 0, 1)) {
		for _, l := range [][]api.Patch{{p}, {good, p}, {p, good}, {good, p, good}} {
			if m, err := bank.New(l); err != api.ErrArg || m != nil {
				t.Errorf("New of %d bytes of %d at %d: %t, error %d", len(p.Bytes), p.Bank, p.At, m != nil, err)
			}
		}
	}
}

// P13.1: what was handed in is neither kept nor changed.
func TestNewKeepsNothing(t *testing.T) {
	whole := []byte{1, 2, 3, 4}
	l := []api.Patch{{Bank: 5, At: 16382, Bytes: whole[:2]}}
	m := made(t, l...)
	if !m.Put(0x7ffe, 77) || !m.Put(0x4000, 78) {
		t.Fatal("Put answers false")
	}
	if !bytes.Equal(whole, []byte{1, 2, 3, 4}) || l[0].Bank != 5 || l[0].At != 16382 || len(l[0].Bytes) != 2 {
		t.Errorf("handed in: % x, %+v", whole, l)
	}
	whole[1], l[0].At = 99, 0
	if v := m.In(5, 16383); v != 2 {
		t.Errorf("In(5, 16383) = %d", v)
	}
}

// P13.1, P13.2: memories are each its own.
func TestMemoriesAreEachItsOwn(t *testing.T) {
	l := everywhere()
	m, n := made(t, l...), made(t, l...)
	if !m.Put(0x8000, 200) || m.Tell(false, 0x27) != api.OK {
		t.Fatal("nothing is put or told")
	}
	if v := n.In(2, 0); v != 9 {
		t.Errorf("In(2, 0) of the other = %d", v)
	}
	if p := n.Page(); p != (api.Page{}) || n.Tell(true, 1) != api.OK {
		t.Errorf("Page() of the other = %02x", p)
	}
}

// P13.2
func TestTellAndPage(t *testing.T) {
	for p := range pages {
		// A memory a page would take too long: these are all bits, alone and together.
		if p.A&(p.A-1) == 0 || p.B&(p.B-1) == 0 && p.A%5 == 0 {
			told(t, made(t), p)
		}
	}
}

// P13.2: behind a lock all is as it was.
func TestTellLocked(t *testing.T) {
	m := made(t, everywhere()...)
	told(t, m, api.Page{A: 0x3b, B: 0x04})
	for v := range 256 {
		for _, more := range []bool{false, true} {
			if err := m.Tell(more, byte(v)); err != api.ErrState {
				t.Fatalf("Tell(%t, %02x): error %d", more, v, err)
			}
		}
	}
	if p := m.Page(); p != (api.Page{A: 0x3b, B: 0x04}) {
		t.Errorf("Page() = %02x", p)
	}
	if a, b, c := m.Byte(0), m.Byte(0xc000), m.Byte(0x4000); a != 45 || b != 13 || c != 21 {
		t.Errorf("bytes %d %d %d", a, b, c)
	}
	if bank, place := m.Where(0xffff); bank != 3 || place != 16383 {
		t.Errorf("Where(ffff) = %d, %d", bank, place)
	}
	if !m.Put(0xffff, 4) || m.In(3, 16383) != 4 {
		t.Error("a lock holds memory, too")
	}
}

// P13.2: a bank of which only B is told is not locked.
func TestTellMoreIsNoLock(t *testing.T) {
	m := made(t)
	for _, v := range []byte{0x20, 0xff, 0x21, 0} {
		if err := m.Tell(true, v); err != api.OK {
			t.Errorf("Tell(true, %02x): error %d", v, err)
		}
	}
	for _, v := range []byte{0xdf, 0, 0x20} {
		if err := m.Tell(false, v); err != api.OK {
			t.Errorf("Tell(false, %02x): error %d", v, err)
		}
	}
	if m.Tell(true, 0) != api.ErrState || m.Tell(false, 0) != api.ErrState {
		t.Error("no lock")
	}
}

// P13.2: all addresses; all that counts of the pages.
func TestWhereAndByte(t *testing.T) {
	for _, b := range []byte{0, 1, 2, 3, 4, 5, 6, 7, 0xf8} {
		for _, a := range []byte{0, 1, 2, 3, 4, 5, 6, 7, 0x10, 0x17, 0xcd} {
			m := made(t, everywhere()...)
			p := api.Page{A: a, B: b}
			told(t, m, p)
			for n := range 1 << 16 {
				at, want := uint16(n), slots(p)[n>>14]
				if bank, place := m.Where(at); bank != want || place != n&0x3fff {
					t.Fatalf("Where(%04x) of %02x = %d, %d", at, p, bank, place)
				}
				if v := m.Byte(at); v != m.In(want, n&0x3fff) {
					t.Fatalf("Byte(%04x) of %02x = %d, In(%d, %d) is another", at, p, v, want, n&0x3fff)
				}
			}
		}
	}
}

// P13.2: of banks that are told apart by their bytes.
func TestInOfAllBanks(t *testing.T) {
	var o model
	for _, p := range everywhere() {
		copy(o.banks[p.Bank][p.At:], p.Bytes)
	}
	o.looked(t, made(t, everywhere()...))
}

// P13.2
func TestInOfNone(t *testing.T) {
	m := made(t)
	for number := range 12 {
		m = made(t, append(m.Patches(), api.Patch{Bank: number, Bytes: bytes.Repeat([]byte{7}, 16384)})...)
	}
	far := []int{math.MinInt, -1 << 32, -16384, -1}
	for _, number := range append(far, 12, 13, 256, 1<<32, math.MaxInt) {
		for _, place := range []int{0, 1, 16383, -1, 16384} {
			if v := m.In(number, place); v != 0 {
				t.Errorf("In(%d, %d) = %d", number, place, v)
			}
		}
	}
	for number := range 12 {
		for _, place := range append(far, 16384, 16385, 32768, 65536, 1<<32, math.MaxInt) {
			if v := m.In(number, place); v != 0 {
				t.Errorf("In(%d, %d) = %d", number, place, v)
			}
		}
	}
}

// P13.1, P13.2: the chapter's examples.
func TestExamples(t *testing.T) {
	m := made(t, api.Patch{Bank: 5, At: 100, Bytes: []byte{1, 2}})
	if v := m.Byte(16484); v != 1 {
		t.Errorf("Byte(16484) = %d", v)
	}
	if m.Put(0, 7) || m.Byte(0) != 0 {
		t.Error("Put(0, 7) answers true, or puts")
	}
	if !m.Put(49152, 9) || m.In(0, 0) != 9 {
		t.Errorf("In(0, 0) = %d", m.In(0, 0))
	}
}

// P13.2, P13.3: a bank is put to by whatever slot it is seen, and read by all.
func TestPutIsReadByAllSlots(t *testing.T) {
	m := made(t, everywhere()...)
	told(t, m, api.Page{A: 5})
	if !m.Put(0x4123, 201) || m.Byte(0xc123) != 201 || !m.Put(0xc123, 202) || m.Byte(0x4123) != 202 {
		t.Error("bank 5 is not in two slots")
	}
	told(t, m, api.Page{A: 2})
	if !m.Put(0x8124, 203) || m.Byte(0xc124) != 203 || !m.Put(0xc124, 204) || m.Byte(0x8124) != 204 {
		t.Error("bank 2 is not in two slots")
	}
	told(t, m, api.Page{B: 3})
	if m.Byte(0x4123) != 202 || !m.Put(0, 205) {
		t.Error("bank 5 or 4 is another")
	}
	told(t, m, api.Page{A: 4})
	if m.Byte(0xc000) != 205 || m.In(4, 0) != 205 || m.Byte(0) != 33 {
		t.Error("bank 4 or 8 is another")
	}
}

// P13.2: of one that nobody made.
func TestMemoriesThatNobodyMade(t *testing.T) {
	for _, m := range []*bank.Mem{nil, {}} {
		if p := m.Page(); p != (api.Page{}) {
			t.Errorf("Page() = %02x", p)
		}
		if m.Tell(false, 7) != api.ErrNil || m.Tell(true, 1) != api.ErrNil || m.Page() != (api.Page{}) {
			t.Error("it can be told")
		}
		for _, at := range []uint16{0, 1, 0x4000, 0xc000, 0xffff} {
			if bank, place := m.Where(at); bank != 0 || place != 0 {
				t.Errorf("Where(%04x) = %d, %d", at, bank, place)
			}
			if m.Put(at, 9) || m.Byte(at) != 0 {
				t.Errorf("something is put at %04x", at)
			}
		}
		if m.In(0, 0) != 0 || m.In(-1, -1) != 0 || m.In(5, 16383) != 0 {
			t.Error("something is in it")
		}
		if l := m.Patches(); len(l) != 0 {
			t.Errorf("Patches() = %v", l)
		}
		if b := m.Bytes(); len(b) != 0 {
			t.Errorf("Bytes() = % x", b)
		}
	}
}
