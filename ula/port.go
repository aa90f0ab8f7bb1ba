package ula

import (
	"slices"

	"pendulum/api"
	"pendulum/bank"
	"pendulum/keys"
)

// What a byte for PortUla tells: the border, and above it the speaker's bits.
const (
	borderBits = 0x07
	bitsUp     = 3
	speaker    = 0x03
)

// Out tells the chip what is written to a class of ports.
func (u *Ula) Out(class int, v byte) api.Errno {
	if !u.isMade() {
		return api.ErrNil
	}
	switch class {
	case api.PortUla:
		u.border, u.bits = v&borderBits, v>>bitsUp&speaker
	case api.PortPage:
		u.shadow = bank.Picture(api.Page{A: v}) == shadowBank
	}
	return api.OK
}

// In answers what is read of a class of ports.
func (u *Ula) In(class int, high byte) byte {
	if !u.isMade() {
		return nobody
	}
	switch class {
	case api.PortUla:
		return keys.Byte(u.touches, u.clock, high)
	case api.PortNone:
		return u.floats
	}
	return nobody
}

// Put lets v stand at a place of the bank 5 or 7.
func (u *Ula) Put(bank, place int, v byte) api.Errno {
	if !u.isMade() {
		return api.ErrNil
	}
	c, is := u.bank(bank)
	if !is || place < 0 || place >= len(c) {
		return api.ErrArg
	}
	c[place] = v
	return api.OK
}

// Touch lets l be what comes from outside: what came already must be of it.
func (u *Ula) Touch(l []api.Touch) api.Errno {
	if !u.isMade() {
		return api.ErrNil
	}
	if e := keys.Check(l); e != api.OK {
		return e
	}
	if !slices.Equal(ahead(u.touches, u.clock), ahead(l, u.clock)) {
		return api.ErrLate
	}
	u.touches = slices.Clone(l)
	return api.OK
}

// ahead answers the touches with Times below t.
func ahead(l []api.Touch, t int64) []api.Touch {
	return l[:keys.Until(l, t-1)]
}
