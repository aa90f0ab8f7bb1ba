package bank

import "pendulum/api"

// content is what stands in a bank.
type content [api.BankSize]byte

// Mem is banks, and what was told of them.
type Mem struct {
	made  bool // tells one that New answered from a zero one
	page  api.Page
	banks []*content
	seen  []*content // of the slots: banks again, one may be in two of them
}

// New answers a memory with patches put in.
func New(l []api.Patch) (*Mem, api.Errno) {
	for _, p := range l {
		if err := CheckPatch(p); err != api.OK {
			return nil, err
		}
	}
	m := &Mem{made: true}
	for range api.MaxBanks {
		m.banks = append(m.banks, new(content))
	}
	for _, p := range l {
		copy(m.banks[p.Bank][p.At:], p.Bytes)
	}
	m.turn(api.Page{})
	return m, api.OK
}

// Page answers what was told.
func (m *Mem) Page() api.Page {
	if !m.isMade() {
		return api.Page{}
	}
	return m.page
}

// Tell tells the memory A, or B.
func (m *Mem) Tell(more bool, v byte) api.Errno {
	if !m.isMade() {
		return api.ErrNil
	}
	p, err := Told(m.page, more, v)
	if err != api.OK {
		return err
	}
	m.turn(p)
	return api.OK
}

// Where answers the bank in which an address is seen, and the place there.
func (m *Mem) Where(at uint16) (bank, place int) {
	if !m.isMade() {
		return 0, 0
	}
	slot, place := parted(at)
	return Slots(m.page)[slot], place
}

// Byte answers what stands at an address.
func (m *Mem) Byte(at uint16) byte {
	if !m.isMade() {
		return 0
	}
	slot, place := parted(at)
	return m.seen[slot][place]
}

// Put lets v stand at an address, and answers whether it does.
func (m *Mem) Put(at uint16, v byte) bool {
	if !m.isMade() {
		return false
	}
	bank, place := m.Where(at)
	if bank >= firstRead {
		return false
	}
	m.banks[bank][place] = v
	return true
}

// In answers what stands at a place of a bank.
func (m *Mem) In(bank, place int) byte {
	if !m.isMade() || !isBank(bank) || place < 0 || place >= api.BankSize {
		return 0
	}
	return m.banks[bank][place]
}

func (m *Mem) isMade() bool {
	return m != nil && m.made
}

// turn lets the slots be as p tells.
func (m *Mem) turn(p api.Page) {
	m.page, m.seen = p, nil
	for _, bank := range Slots(p) {
		m.seen = append(m.seen, m.banks[bank])
	}
}

// parted answers the slot of an address, and the place in it.
func parted(at uint16) (slot, place int) {
	return int(at) / api.BankSize, int(at) % api.BankSize
}
