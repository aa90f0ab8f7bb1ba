package regs

import (
	"bytes"

	"pendulum/api"
	"pendulum/octet"
	"pendulum/wide"
)

// length is how many bytes registers are: ten single ones, nine words, the
// switches, the mode, the sum.
const length = 10 + 9*2 + 2 + 2

// Bytes answers the bytes of the registers, with their sum behind them.
func Bytes(r api.Regs) ([]byte, api.Errno) {
	if err := Check(r); err != api.OK {
		return nil, err
	}
	b := make([]byte, 0, length)
	for _, at := range singles(&r) {
		b = append(b, *at)
	}
	for _, at := range words(&r) {
		b = appendWord(b, *at)
	}
	b = append(b, switchByte(r), byte(r.IM))
	return appendWord(b, octet.Sum(b)), api.OK
}

// Read answers the registers whose bytes b are.
func Read(b []byte) (api.Regs, api.Errno) {
	if len(b) != length {
		return api.Regs{}, api.ErrBad
	}
	r := taken(b)
	// One registers' bytes are one: whatever else b has somewhere shows here.
	if again, err := Bytes(r); err != api.OK || !bytes.Equal(again, b) {
		return api.Regs{}, api.ErrBad
	}
	return r, api.OK
}

// taken answers the registers that b tells, whether it may or not.
func taken(b []byte) (r api.Regs) {
	for i, at := range singles(&r) {
		*at = b[i]
	}
	b = b[len(singles(&r)):]
	for i, at := range words(&r) {
		*at = wide.Pair(b[2*i], b[2*i+1])
	}
	b = b[2*len(words(&r)):]
	for i, at := range switches(&r) {
		*at = b[0]>>i&1 != 0
	}
	r.IM = int(b[1])
	return r
}

// singles answers where the single bytes are, in the order in which they are told.
func singles(r *api.Regs) [10]*byte {
	return [10]*byte{&r.A, &r.F, &r.B, &r.C, &r.D, &r.E, &r.H, &r.L, &r.I, &r.R}
}

func words(r *api.Regs) [9]*uint16 {
	return [9]*uint16{&r.IX, &r.IY, &r.SP, &r.PC, &r.WZ, &r.AF2, &r.BC2, &r.DE2, &r.HL2}
}

// switches answers what is told by a bit each, from the lowest on.
func switches(r *api.Regs) [4]*bool {
	return [4]*bool{&r.IFF1, &r.IFF2, &r.Halt, &r.Late}
}

func switchByte(r api.Regs) (b byte) {
	for i, at := range switches(&r) {
		if *at {
			b |= 1 << i
		}
	}
	return b
}

func appendWord(b []byte, v uint16) []byte {
	high, low := wide.Split(v)
	return append(b, high, low)
}
