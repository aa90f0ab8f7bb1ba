package bank_test

import (
	"bytes"
	"slices"
	"testing"

	"pendulum/api"
	"pendulum/bank"
	"pendulum/octet"
)

func samePatches(a, b []api.Patch) bool {
	return slices.EqualFunc(a, b, func(x, y api.Patch) bool {
		return x.Bank == y.Bank && x.At == y.At && bytes.Equal(x.Bytes, y.Bytes)
	})
}

// scattered is a memory's patches with all edges: a bank's first and last
// place, all of a bank, a single 0 between two.
func scattered() []api.Patch {
	return []api.Patch{
		{Bank: 0, At: 0, Bytes: []byte{1}},
		{Bank: 0, At: 2, Bytes: []byte{2, 3}},
		{Bank: 0, At: 16383, Bytes: []byte{4}},
		{Bank: 1, At: 0, Bytes: bytes.Repeat([]byte{5}, 16384)},
		{Bank: 2, At: 0, Bytes: []byte{6, 7}},
		{Bank: 5, At: 247, Bytes: bytes.Repeat([]byte{8}, 248)},
		{Bank: 7, At: 16000, Bytes: bytes.Repeat([]byte{9}, 384)},
		{Bank: 8, At: 8191, Bytes: []byte{10, 11, 255}},
		{Bank: 11, At: 16382, Bytes: []byte{12}},
	}
}

// asTold answers bytes as a memory's are told: A, B, how many patches, and these.
func asTold(page api.Page, l ...api.Patch) []byte {
	b := octet.Number(nil, uint64(page.A))
	b = octet.Number(b, uint64(page.B))
	b = octet.Number(b, uint64(len(l)))
	for _, p := range l {
		b = octet.Number(b, uint64(p.Bank))
		b = octet.Number(b, uint64(p.At))
		b, _ = octet.Block(b, p.Bytes)
	}
	return b
}

// P13.2
func TestPatches(t *testing.T) {
	if l := made(t).Patches(); len(l) != 0 {
		t.Errorf("Patches() of none: %v", l)
	}
	if l := made(t, scattered()...).Patches(); !samePatches(l, scattered()) {
		t.Errorf("Patches() = %v", l)
	}
	shuffled := scattered()
	slices.Reverse(shuffled)
	if l := made(t, shuffled...).Patches(); !samePatches(l, scattered()) {
		t.Errorf("Patches() of the others = %v", l)
	}
}

// P13.2: stretches are as long as they go, and begin behind a 0.
func TestPatchesAreStretches(t *testing.T) {
	m := made(t,
		api.Patch{Bank: 3, At: 10, Bytes: []byte{0, 1, 0, 0, 2, 0}},
		api.Patch{Bank: 3, At: 15, Bytes: []byte{3}},
		api.Patch{Bank: 3, At: 16, Bytes: []byte{4, 5}},
		api.Patch{Bank: 4, At: 20, Bytes: []byte{6, 6, 6}},
		api.Patch{Bank: 4, At: 21, Bytes: []byte{0}},
		api.Patch{Bank: 6, At: 0, Bytes: make([]byte, 16384)})
	want := []api.Patch{
		{Bank: 3, At: 11, Bytes: []byte{1}},
		{Bank: 3, At: 14, Bytes: []byte{2, 3, 4, 5}},
		{Bank: 4, At: 20, Bytes: []byte{6}},
		{Bank: 4, At: 22, Bytes: []byte{6}},
	}
	if l := m.Patches(); !samePatches(l, want) {
		t.Errorf("Patches() = %v", l)
	}
}

// P13.2: what is put becomes part of a stretch, or parts it.
func TestPatchesOfWhatIsPut(t *testing.T) {
	m := made(t, api.Patch{Bank: 0, At: 1, Bytes: []byte{1, 2, 3}})
	m.Put(0xc002, 0)
	m.Put(0xc004, 4)
	m.Put(0x8000, 5)
	want := []api.Patch{
		{Bank: 0, At: 1, Bytes: []byte{1}}, {Bank: 0, At: 3, Bytes: []byte{3, 4}}, {Bank: 2, At: 0, Bytes: []byte{5}},
	}
	if l := m.Patches(); !samePatches(l, want) {
		t.Errorf("Patches() = %v", l)
	}
}

// P13.2: New of them is the same memory, but for Page.
func TestNewOfPatches(t *testing.T) {
	m := made(t, scattered()...)
	told(t, m, api.Page{A: 0x38, B: 5})
	n := made(t, m.Patches()...)
	if p := n.Page(); p != (api.Page{}) {
		t.Errorf("Page() = %02x", p)
	}
	same(t, m, n)
}

func same(t *testing.T, m, n *bank.Mem) {
	t.Helper()
	for number := range 12 {
		for place := range 16384 {
			if m.In(number, place) != n.In(number, place) {
				t.Fatalf("In(%d, %d): %d and %d", number, place, m.In(number, place), n.In(number, place))
			}
		}
	}
}

// P13.2
func TestBytes(t *testing.T) {
	if b := made(t).Bytes(); !bytes.Equal(b, []byte{0, 0, 0}) {
		t.Errorf("Bytes() of none = % x", b)
	}
	m := made(t, api.Patch{Bank: 5, At: 100, Bytes: []byte{1, 2}}, api.Patch{Bank: 11, At: 16383, Bytes: []byte{255}})
	told(t, m, api.Page{A: 0xff, B: 0x80})
	want := []byte{0xf8, 0xff, 0x80, 2, 5, 100, 2, 1, 2, 11, 0xf9, 0xff, 0x3f, 1, 255}
	if b := m.Bytes(); !bytes.Equal(b, want) {
		t.Errorf("Bytes() = % x, want % x", b, want)
	}
	if b := made(t, scattered()...).Bytes(); !bytes.Equal(b, asTold(api.Page{}, scattered()...)) {
		t.Errorf("Bytes() = % x", b)
	}
}

// P13.2, P13.3
func TestReadOfBytes(t *testing.T) {
	for _, page := range []api.Page{{}, {A: 7, B: 1}, {A: 0xff, B: 0xff}, {A: 0x20}, {B: 0x20}, {A: 0xf8, B: 0xf7}} {
		for _, l := range [][]api.Patch{nil, everywhere(), scattered()} {
			m := made(t, l...)
			told(t, m, page)
			n, err := bank.Read(m.Bytes())
			if err != api.OK || n == nil || n.Page() != page {
				t.Fatalf("Read of %02x: error %d", page, err)
			}
			same(t, m, n)
			if !bytes.Equal(n.Bytes(), m.Bytes()) || !samePatches(n.Patches(), l) {
				t.Errorf("Read of %02x is another", page)
			}
			for slot := range 4 {
				bank, place := n.Where(uint16(slot << 14))
				if bank != slots(page)[slot] || place != 0 || n.Byte(uint16(slot<<14)) != n.In(bank, 0) {
					t.Errorf("slot %d of %02x has bank %d", slot, page, bank)
				}
			}
		}
	}
}

// P13.2: what is read is a memory of its own, locked or not as it was.
func TestReadIsItsOwn(t *testing.T) {
	m := made(t, scattered()...)
	b := m.Bytes()
	n, _ := bank.Read(b)
	clear(b)
	same(t, m, n)
	if !n.Put(0xc000, 99) || n.Tell(false, 0x25) != api.OK || m.In(0, 0) != 1 || m.Page() != (api.Page{}) {
		t.Error("they share something")
	}
	locked, _ := bank.Read(n.Bytes())
	if locked.Tell(true, 1) != api.ErrState || locked.Page() != (api.Page{A: 0x25}) {
		t.Error("the lock is lost")
	}
}

// P13.2: bytes that are no memory's.
func TestReadOfOtherBytes(t *testing.T) {
	one := api.Patch{Bank: 5, At: 100, Bytes: []byte{1, 2}}
	page := api.Page{A: 3, B: 4}
	for name, b := range map[string][]byte{
		"none":                  nil,
		"a page alone":          {3, 4},
		"a page and a half":     {3},
		"a number above 255":    {0xf9, 0, 1, 0, 0},
		"the other above 255":   {0, 0xf9, 0, 1, 0},
		"a number too long":     {0xf8, 3, 4, 0},
		"a patch less":          append([]byte{3, 4, 2}, asTold(page, one)[3:]...),
		"a patch more":          append([]byte{3, 4, 0}, asTold(page, one)[3:]...),
		"a byte more":           append(asTold(page, one), 0),
		"a byte more of none":   {0, 0, 0, 0},
		"no bytes":              asTold(page, api.Patch{Bank: 5, At: 100}),
		"no bytes behind":       asTold(page, api.Patch{Bank: 5, At: 16384}),
		"a 0 ahead":             asTold(page, api.Patch{Bank: 5, At: 100, Bytes: []byte{0, 1}}),
		"a 0 behind":            asTold(page, api.Patch{Bank: 5, At: 100, Bytes: []byte{1, 0}}),
		"a 0 within":            asTold(page, api.Patch{Bank: 5, At: 100, Bytes: []byte{1, 0, 1}}),
		"a 0 alone":             asTold(page, api.Patch{Bank: 5, At: 100, Bytes: []byte{0}}),
		"no bank":               asTold(page, api.Patch{Bank: 12, At: 100, Bytes: []byte{1}}),
		"a bank modulo 256":     asTold(page, api.Patch{Bank: 261, At: 100, Bytes: []byte{1}}),
		"no place":              asTold(page, api.Patch{Bank: 5, At: 16384, Bytes: []byte{1}}),
		"beyond the end":        asTold(page, api.Patch{Bank: 5, At: 16383, Bytes: []byte{1, 2}}),
		"more than a bank":      asTold(page, api.Patch{Bank: 5, At: 0, Bytes: bytes.Repeat([]byte{1}, 16385)}),
		"twice":                 asTold(page, one, one),
		"side by side":          asTold(page, one, api.Patch{Bank: 5, At: 102, Bytes: []byte{3}}),
		"one over the other":    asTold(page, one, api.Patch{Bank: 5, At: 101, Bytes: []byte{2}}),
		"places that fall":      asTold(page, one, api.Patch{Bank: 5, At: 98, Bytes: []byte{3}}),
		"banks that fall":       asTold(page, one, api.Patch{Bank: 4, At: 200, Bytes: []byte{3}}),
		"a great count":         {3, 4, 0xff, 255, 255, 255, 255, 255, 255, 255, 255},
		"a count beyond it all": append(octet.Number([]byte{3, 4}, 1<<62), asTold(page, one)[3:]...),
		"a great length":        {3, 4, 1, 5, 100, 0xff, 255, 255, 255, 255, 255, 255, 255, 127},
		"a great place":         {3, 4, 1, 5, 0xff, 100, 0, 0, 0, 0, 0, 0, 128, 1, 1},
	} {
		if m, err := bank.Read(b); err != api.ErrBad || m != nil {
			t.Errorf("Read of %s: %t, error %d", name, m != nil, err)
		}
	}
}

// P13.2: bytes that are cut, anywhere; b is neither changed nor read further.
func TestReadOfCutBytes(t *testing.T) {
	m := made(t, everywhere()...)
	told(t, m, api.Page{A: 0xff, B: 0xfe})
	b := m.Bytes()
	again := slices.Clone(b)
	for n := range b {
		if m, err := bank.Read(b[:n]); err != api.ErrBad || m != nil {
			t.Errorf("Read of %d bytes: %t, error %d", n, m != nil, err)
		}
	}
	if !bytes.Equal(b, again) {
		t.Error("Read changed its bytes")
	}
}

// P13.2: the most patches that a memory has, every other byte a 0.
func TestReadOfTheMostPatches(t *testing.T) {
	var l []api.Patch
	for number := range 12 {
		l = append(l, api.Patch{Bank: number, Bytes: bytes.Repeat([]byte{0, 3}, 8192)})
	}
	m := made(t, l...)
	if n := len(m.Patches()); n != 12*8192 {
		t.Fatalf("%d patches", n)
	}
	n, err := bank.Read(m.Bytes())
	if err != api.OK {
		t.Fatalf("Read: error %d", err)
	}
	same(t, m, n)
}

// P13.2: answers are new memory, their spare room too.
func TestAnswersAreTheirOwn(t *testing.T) {
	m := made(t, scattered()...)
	l, b := m.Patches(), m.Bytes()
	for n := range l {
		spare := l[n].Bytes[:cap(l[n].Bytes)]
		for k := range spare {
			spare[k] = 255
		}
		l[n].At = 1
	}
	clear(l[:cap(l)])
	clear(b[:cap(b)])
	if !samePatches(m.Patches(), scattered()) || !bytes.Equal(m.Bytes(), asTold(api.Page{}, scattered()...)) {
		t.Error("the memory changed with its answer")
	}
	again := m.Patches()
	for n := range again {
		_ = append(again[n].Bytes, 77)
	}
	if !samePatches(again, scattered()) {
		t.Error("patches of one answer share their room")
	}
}

// P13.2: what bytes Read takes are those that its memory answers.
func FuzzRead(f *testing.F) {
	f.Add([]byte{0, 0, 0})
	f.Add(asTold(api.Page{A: 0x25, B: 0xff}, everywhere()...))
	f.Add(asTold(api.Page{A: 0xff}, scattered()[:3]...))
	f.Add([]byte{3, 4, 1, 5, 100, 2, 1, 2})
	f.Fuzz(func(t *testing.T, b []byte) {
		m, err := bank.Read(b)
		if err != api.OK {
			if err != api.ErrBad || m != nil {
				t.Errorf("Read: %t, error %d", m != nil, err)
			}
			return
		}
		if !bytes.Equal(m.Bytes(), b) {
			t.Errorf("Bytes() = % x, want % x", m.Bytes(), b)
		}
		l := m.Patches()
		for _, p := range l {
			if bank.CheckPatch(p) != api.OK || len(p.Bytes) == 0 || slices.Contains(p.Bytes, 0) {
				t.Errorf("a patch %+v", p)
			}
		}
	})
}
