package length_test

import (
	"slices"
	"testing"

	"pendulum/api"
	"pendulum/decode"
	"pendulum/length"
	"pendulum/regs"
	"pendulum/step"
)

// chance is a row of numbers that is the same each time.
type chance uint64

func (c *chance) next() byte {
	*c = *c*6364136223846793005 + 1442695040888963407
	return byte(*c >> 56)
}

func (c *chance) word() uint16 { return uint16(c.next())<<8 | uint16(c.next()) }

// registers answers some whose counts are at their ends often.
func (c *chance) registers() api.Regs {
	r := api.Regs{
		A: c.next(), F: c.next(), D: c.next(), E: c.next(), H: c.next(), L: c.next(), I: c.next(), R: c.next(),
		IX: c.word(), IY: c.word(), SP: c.word(), PC: c.word(), WZ: c.word(),
		AF2: c.word(), BC2: c.word(), DE2: c.word(), HL2: c.word(),
		IFF1: c.next()%2 == 0, IFF2: c.next()%2 == 0, IM: int(c.next()) % 3, Late: c.next()%2 == 0,
	}
	r.B = []byte{0, 1, 2, c.next()}[c.next()%4]
	r.C = []byte{0, 1, 2, c.next()}[c.next()%4]
	return r
}

// folded answers the cycles of requests: an idle one counts to the one ahead.
func folded(asked []api.Req) (l []int) {
	for _, q := range asked {
		if q.Kind != api.ReqIdle {
			l = append(l, 0)
		}
		l[len(l)-1] += q.T
	}
	return l
}

// goesOn answers whether there is more of an instruction, found being the byte at HL.
func goesOn(i api.Ins, r api.Regs, found byte) bool {
	switch {
	case i.Set == api.SetMain && i.Op == 0x10:
		return r.B != 1
	case i.Set == api.SetMain && i.Op&0xe7 == 0x20:
		return regs.Cond(r.F, i.Op>>3&3)
	case i.Set == api.SetMain && (i.Op&0xc7 == 0xc0 || i.Op&0xc7 == 0xc4):
		return regs.Cond(r.F, i.Op>>3&7)
	case i.Set == api.SetMore && i.Op&0xf7 == 0xb0:
		return r.B != 0 || r.C != 1
	case i.Set == api.SetMore && i.Op&0xf7 == 0xb1:
		return (r.B != 0 || r.C != 1) && found != r.A
	case i.Set == api.SetMore && (i.Op&0xf7 == 0xb2 || i.Op&0xf7 == 0xb3):
		return r.B != 1
	}
	return false
}

// checkFollows does the instruction at PC, and looks whether it lasts as it is
// published; it answers whether there was more.
func checkFollows(t *testing.T, f *length.Flat, i api.Ins) bool {
	t.Helper()
	r := f.Regs()
	more := goesOn(i, r, f.Byte(uint16(r.H)<<8|uint16(r.L)))
	if is, err := f.Ins(); err != api.OK || is != i {
		t.Fatalf("Ins() = %+v, error %d, want %+v", is, err, i)
	}
	l, err := f.Step()
	want, wantErr := length.Of(i, more)
	if err != api.OK || wantErr != api.OK || !slices.Equal(folded(l), want) {
		t.Errorf("%+v, %t, of %+v: %+v, error %d, want %v, error %d", i, more, r, l, err, want, wantErr)
	}
	if sum, err := length.Total(i, more); err != api.OK || sum != total(folded(l)) {
		t.Errorf("Total(%+v, %t) = %d, error %d, want %d", i, more, sum, err, total(folded(l)))
	}
	return more
}

// P12.3: all operations; those that hang on something with more and without.
func TestPublishedIsWhatStepSays(t *testing.T) {
	c := chance(1)
	seen := map[api.Ins][2]int{}
	for i := range eachInstruction {
		for range 12 {
			checkOne(t, &c, i, seen)
		}
		if t.Failed() {
			return
		}
	}
	for i, times := range seen {
		if length.Hangs(i) != (times[1] > 0) || length.Hangs(i) && times[0] == 0 {
			t.Errorf("%+v hangs on something: %t; without more %d times, with it %d times", i, length.Hangs(i), times[0], times[1])
		}
	}
}

// checkOne does an instruction with registers by chance; seen counts by
// operations how often there was no more, and how often there was.
func checkOne(t *testing.T, c *chance, i api.Ins, seen map[api.Ins][2]int) {
	t.Helper()
	r := c.registers()
	f := made(t, r, r.PC)
	hl := uint16(r.H)<<8 | uint16(r.L)
	for n := range uint16(8) {
		f.Poke(hl+n, c.next())
		f.Poke(r.SP+n, c.next())
	}
	if c.next()%4 == 0 {
		f.Poke(hl, r.A)
	}
	for n, v := range bytesOf(t, i) {
		f.Poke(r.PC+uint16(n), v)
	}
	times := seen[operationOf(i)]
	if checkFollows(t, f, i) {
		times[1]++
	} else {
		times[0]++
	}
	seen[operationOf(i)] = times
}

// bytesOf answers an instruction's bytes; behind a lone prefix such as makes it one.
func bytesOf(t *testing.T, i api.Ins) []byte {
	t.Helper()
	b, err := decode.Bytes(i)
	if err != api.OK {
		t.Fatalf("Bytes(%+v): error %d", i, err)
	}
	if i.Set == api.SetMain && (i.Op == 0xdd || i.Op == 0xfd) {
		b = append(b, 0xed)
	}
	return b
}

// operationOf answers an instruction whose operands are 0.
func operationOf(i api.Ins) api.Ins {
	i.Disp, i.Imm = 0, 0
	return i
}

// P12.2, P12.3: whatever stands in memory, machines go on, and each instruction
// lasts as it is published.
func FuzzFlat(f *testing.F) {
	f.Add([]byte{6, 3, 0x3c, 0x10, 0xfd, 0xd3, 254, 0xfb, 0x76}, uint16(0), uint64(1))
	f.Add([]byte{0xdd, 0xdd, 0x34, 1, 0xed, 0xb0, 0xfd, 0xcb, 3, 0x46}, uint16(0xfffd), uint64(2))
	f.Add([]byte{0xed, 0xb3, 0xed, 0xa2, 0xed, 0xb9, 0xe3, 0xdd, 0xe3}, uint16(0x8000), uint64(3))
	f.Fuzz(func(t *testing.T, b []byte, at uint16, seed uint64) {
		c := chance(seed)
		r := c.registers()
		r.PC = at
		m, err := length.New(r, at, b)
		if err != api.OK {
			if len(b) <= 1<<16 || err != api.ErrArg || m != nil {
				t.Fatalf("New of %d bytes: error %d", len(b), err)
			}
			return
		}
		for range 200 {
			checkGoesOn(t, m, c.next())
		}
	})
}

// checkGoesOn asks for an interrupt, and does an instruction.
func checkGoesOn(t *testing.T, m *length.Flat, v byte) {
	t.Helper()
	may := step.May(m.Regs())
	if l, err := m.Interrupt(v); err != api.OK || may != (len(l) > 0) || may && l[0].Kind != api.ReqAck {
		t.Fatalf("Interrupt(%d) = %+v, error %d", v, l, err)
	}
	if m.Regs().Halt {
		steps(t, m, fetch(m.Regs().PC))
		return
	}
	i, err := m.Ins()
	if err != api.OK || decode.Check(i) != api.OK {
		t.Fatalf("Ins() = %+v, error %d", i, err)
	}
	checkFollows(t, m, i)
}
