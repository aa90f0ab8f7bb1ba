package regs

import (
	"pendulum/api"
	"pendulum/wide"
)

// pair is how a pair is read and put, be it two bytes or one word.
type pair struct {
	get func() uint16
	put func(v uint16)
}

// couple is a pair of two bytes.
type couple struct{ high, low *byte }

func (c couple) get() uint16  { return wide.Pair(*c.high, *c.low) }
func (c couple) put(v uint16) { *c.high, *c.low = wide.Split(v) }

// word is a pair that is one word.
type word struct{ at *uint16 }

func (w word) get() uint16  { return *w.at }
func (w word) put(v uint16) { *w.at = v }

func ofBytes(high, low *byte) pair {
	c := couple{high, low}
	return pair{c.get, c.put}
}

func ofWord(at *uint16) pair {
	w := word{at}
	return pair{w.get, w.put}
}

func pairOf(r *api.Regs, index, code int, stack bool) pair {
	switch code = modulo(code, 4); {
	case code == 0:
		return ofBytes(&r.B, &r.C)
	case code == 1:
		return ofBytes(&r.D, &r.E)
	case code == 2:
		return indexOf(r, index)
	case stack:
		return ofBytes(&r.A, &r.F)
	default:
		return ofWord(&r.SP)
	}
}

func indexOf(r *api.Regs, index int) pair {
	switch modulo(index, 3) {
	case 0:
		return ofBytes(&r.H, &r.L)
	case 1:
		return ofWord(&r.IX)
	default:
		return ofWord(&r.IY)
	}
}

func swap(a, b pair) {
	ofA, ofB := a.get(), b.get()
	a.put(ofB)
	b.put(ofA)
}
