package bank

import (
	"bytes"
	"slices"

	"pendulum/api"
	"pendulum/octet"
)

// mostPatches is how many patches a memory is at most: at least one byte of 0
// stands between two of a bank.
const mostPatches = api.MaxBanks * api.BankSize / 2

// Patches answers the bytes that are not 0, stretch by stretch.
func (m *Mem) Patches() []api.Patch {
	if !m.isMade() {
		return nil
	}
	var l []api.Patch
	for bank, c := range m.banks {
		l = append(l, stretches(bank, c)...)
	}
	return l
}

// Bytes answers the bytes of the memory.
func (m *Mem) Bytes() []byte {
	if !m.isMade() {
		return nil
	}
	l := m.Patches()
	b := numbers(int(m.page.A), int(m.page.B), len(l))
	for _, p := range l {
		// octet copies what it puts to: put to b, each patch would cost all of b.
		b = append(b, patchBytes(p)...)
	}
	return b
}

// Read answers the memory whose bytes b are.
func Read(b []byte) (*Mem, api.Errno) {
	page, l, err := taken(b)
	if err != api.OK {
		return nil, api.ErrBad
	}
	m, err := New(l)
	if err != api.OK {
		return nil, api.ErrBad
	}
	m.turn(page)
	// One memory's bytes are one: patches that are none of it show here.
	if !bytes.Equal(m.Bytes(), b) {
		return nil, api.ErrBad
	}
	return m, api.OK
}

// taken answers what b tells, whether it may be or not.
func taken(b []byte) (page api.Page, l []api.Patch, err api.Errno) {
	r := octet.New(b)
	page.A = byte(r.Count(0xff))
	page.B = byte(r.Count(0xff))
	for range r.Count(mostPatches) {
		bank := r.Count(api.MaxBanks - 1)
		at := r.Count(api.BankSize - 1)
		l = append(l, api.Patch{Bank: bank, At: at, Bytes: r.Block()})
		if r.Err() != api.OK {
			break
		}
	}
	return page, l, r.End()
}

// stretches answers the patches of a bank.
func stretches(bank int, c *content) []api.Patch {
	var l []api.Patch
	from := 0 // behind the last 0
	for at, v := range c {
		if v != 0 {
			continue
		}
		if from < at {
			l = append(l, api.Patch{Bank: bank, At: from, Bytes: slices.Clone(c[from:at])})
		}
		from = at + 1
	}
	if from < len(c) {
		l = append(l, api.Patch{Bank: bank, At: from, Bytes: slices.Clone(c[from:])})
	}
	return l
}

// patchBytes is for patches of a bank alone: they are short enough for a block,
// so that there is no error.
func patchBytes(p api.Patch) []byte {
	b, _ := octet.Block(numbers(p.Bank, p.At), p.Bytes)
	return b
}

func numbers(l ...int) []byte {
	var b []byte
	for _, n := range l {
		b = octet.Number(b, uint64(n))
	}
	return b
}
