package ula

import (
	"slices"

	"pendulum/api"
	"pendulum/keys"
	"pendulum/octet"
	"pendulum/tstate"
)

// Bytes answers the bytes of the chip.
func (u *Ula) Bytes() []byte {
	if !u.isMade() {
		return nil
	}
	// What a chip is made of may be, so that there are no errors.
	screen, _ := tstate.Bytes(u.screen)
	touches, _ := keys.Bytes(u.touches)
	shadow := uint64(0)
	if u.shadow {
		shadow = 1
	}
	return slices.Concat(
		block(screen), block(touches), block(u.five[:]), block(u.seven[:]),
		numbers(shadow, uint64(u.border), uint64(u.bits), uint64(u.told), uint64(u.floats), uint64(u.clock), uint64(u.seq)),
	)
}

// Read answers the chip whose bytes b are.
func Read(b []byte) (*Ula, api.Errno) {
	r := octet.New(b)
	u := &Ula{made: true}
	var e [2]api.Errno
	u.screen, e[0] = tstate.Read(r.Block())
	u.touches, e[1] = keys.Read(r.Block())
	five, seven := r.Block(), r.Block()
	u.shadow = r.Count(1) == 1
	u.border = byte(r.Count(borderBits))
	u.bits = byte(r.Count(speaker))
	u.told = byte(r.Count(speaker))
	u.floats = byte(r.Count(0xff))
	clock, seq := r.Number(), r.Number()
	if r.End() != api.OK || e != [2]api.Errno{} || clock > api.MaxTime || seq > api.MaxSeq {
		return nil, api.ErrBad
	}
	if len(five) != api.BankSize || len(seven) != api.BankSize {
		return nil, api.ErrBad
	}
	u.five, u.seven = content(five), content(seven)
	u.clock, u.seq = int64(clock), int64(seq)
	return u, api.OK
}

// block is for what is short enough for a block, as the most touches are, too, so
// that there is no error.
func block(p []byte) []byte {
	b, _ := octet.Block(nil, p)
	return b
}

func numbers(l ...uint64) []byte {
	var b []byte
	for _, n := range l {
		b = octet.Number(b, n)
	}
	return b
}
