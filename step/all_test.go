package step_test

import (
	"fmt"
	"testing"

	"pendulum/api"
	"pendulum/decode"
	"pendulum/step"
)

// chance is a row of numbers that is the same each time.
type chance uint64

func (c *chance) next() byte {
	*c = *c*6364136223846793005 + 1442695040888963407
	return byte(*c >> 56)
}

func (c *chance) word() uint16 { return uint16(c.next())<<8 | uint16(c.next()) }

func (c *chance) registers() (r api.Regs) {
	singles, words, switches := registers(&r)
	for _, name := range []string{"A", "F", "B", "C", "D", "E", "H", "L", "I", "R"} {
		*singles[name] = c.next()
	}
	for _, name := range []string{"IX", "IY", "SP", "PC", "WZ", "AF2", "BC2", "DE2", "HL2"} {
		*words[name] = c.word()
	}
	for _, name := range []string{"IFF1", "IFF2", "Late"} {
		*switches[name] = c.next()%2 == 1
	}
	r.IM = int(c.next()) % 3
	return r
}

// edgeRegisters are such at which words wrap round, counts are at their ends,
// flags are all one way.
func edgeRegisters() []api.Regs {
	return []api.Regs{
		{},
		with(api.Regs{}, "AF=ffff BC=ffff DE=ffff HL=ffff I=ff R=ff IX=ffff IY=ffff SP=ffff PC=ffff WZ=ffff AF2=1 BC2=2 DE2=3 HL2=4 IFF1=1 IFF2=1 IM=2 Late=1"),
		with(before, "BC=0001 F=ff"),
		with(before, "BC=0100 F=00 SP=0001 HL=ffff DE=0000 IX=0080 IY=ff80 PC=fffd"),
		with(before, "BC=0002 A=80 F=01 SP=0000 R=7f IFF1=1 IFF2=0"),
		with(before, "BC=0200 A=7f F=84 WZ=ffff HL=7fff DE=8000"),
		with(before, "BC=01ff A=00 F=40 IX=7fff IY=8000 PC=00ff"),
	}
}

// eachOperation goes over the bytes of all operations, operands 0, and what stands ahead of them.
func eachOperation(yield func(b []byte, at int) bool) {
	for _, ahead := range []string{"", "\xcb", "\xed", "\xdd", "\xfd", "\xdd\xcb\x00", "\xfd\xcb\x00"} {
		for op := range 256 {
			if op == 0xcb && ahead != "\xcb" && ahead != "\xed" && len(ahead) < 3 || len(ahead) == 0 && (op == 0xdd || op == 0xed || op == 0xfd) {
				continue
			}
			if (ahead == "\xdd" || ahead == "\xfd") && (op == 0xdd || op == 0xed || op == 0xfd) {
				continue
			}
			if !yield(append([]byte(ahead), byte(op), 0, 0, 0), len(ahead)) {
				return
			}
		}
	}
}

// withOperands answers an instruction whose operands are others than 0.
func withOperands(b []byte, at int, c *chance) (api.Ins, []byte) {
	other := append([]byte{}, b...)
	for n := at + 1; n < len(b); n++ {
		other[n] = c.next()
	}
	if at == 3 {
		other[2] = c.next()
	}
	i, err := decode.Of(other)
	if err != api.OK {
		panic(err)
	}
	return i, other[:i.Len:i.Len]
}

// checkModelled holds Next against the model, bytes of memory and ports being those of c.
func checkModelled(t *testing.T, r api.Regs, i api.Ins, b []byte, c *chance) {
	t.Helper()
	m := modelled(r, i, b, func(q api.Req) byte {
		switch q.Kind {
		case api.ReqRead, api.ReqIn:
			if v := c.next(); v%8 != 0 {
				return v
			}
			return []byte{r.A, 0, 0xff, 0x80}[c.next()%4]
		}
		return 0
	})
	name := fmt.Sprintf("% x of %+v", b, r)
	checkRow(t, name, nextOf(r, peeked(b)), m.asked, m.got, m.r)
	checkTooLong(t, name, nextOf(r, peeked(b)), m.got)
	checkWhatGoesOut(t, name, nextOf(r, peeked(b)), m)
	checkReadsItsBytes(t, name, m.asked, r.PC, b)
}

// checkWhatGoesOut looks whether what comes back where nothing does counts.
func checkWhatGoesOut(t *testing.T, name string, next runner, m *model) {
	t.Helper()
	other := append([]byte{}, m.got...)
	for n, q := range m.asked {
		if q.Kind == api.ReqWrite || q.Kind == api.ReqOut || q.Kind == api.ReqIdle {
			other[n] = 0xa5 + byte(n)
		}
	}
	checkRow(t, name+", other bytes where none comes back", next, m.asked, other, m.r)
}

// checkReadsItsBytes looks whether fetches and reads at PC are just the instruction's bytes, in order.
func checkReadsItsBytes(t *testing.T, name string, asked []api.Req, at uint16, b []byte) {
	t.Helper()
	count := 0
	for _, q := range asked {
		if q.Kind == api.ReqFetch || q.Kind == api.ReqRead && count < len(b) && q.Addr == at+uint16(count) {
			count++
		}
		if q.Kind == api.ReqFetch && q.Addr != at+uint16(count-1) {
			t.Errorf("%s: a fetch at %04x", name, q.Addr)
		}
	}
	if count != len(b) {
		t.Errorf("%s: %d bytes are read of %d", name, count, len(b))
	}
}

// P11.1, P11.3: all operations, with registers and operands at edges and by chance.
func TestAllOperations(t *testing.T) {
	c := chance(1)
	for b, at := range eachOperation {
		for _, r := range edgeRegisters() {
			for range 6 {
				i, own := withOperands(b, at, &c)
				checkModelled(t, r, i, own, &c)
			}
		}
		for range 40 {
			i, own := withOperands(b, at, &c)
			checkModelled(t, c.registers(), i, own, &c)
		}
		if t.Failed() {
			return
		}
	}
}

// P11.1: all ways to jump, and all that is added to an index.
func TestAllDisplacements(t *testing.T) {
	c := chance(2)
	for v := range 256 {
		for _, b := range [][]byte{
			{0x18, byte(v)}, {0x10, byte(v)}, {0x20, byte(v)}, {0x38, byte(v)},
			{0xdd, 0x7e, byte(v)}, {0xfd, 0x77, byte(v)}, {0xdd, 0x36, byte(v), c.next()}, {0xfd, 0x34, byte(v)},
			{0xdd, 0xcb, byte(v), 0x46}, {0xfd, 0xcb, byte(v), 0xc1},
		} {
			i, err := decode.Of(b)
			if err != api.OK {
				t.Fatal(err)
			}
			checkModelled(t, c.registers(), i, b, &c)
		}
	}
}

// P11.1: each flag's conditions, with all flags.
func TestAllConditions(t *testing.T) {
	c := chance(3)
	for f := range 256 {
		for y := range 8 {
			for _, b := range [][]byte{{byte(0xc0 + 8*y)}, {byte(0xc2 + 8*y), 1, 2}, {byte(0xc4 + 8*y), 3, 4}, {byte(0x20 + 8*(y%4)), 5}} {
				r := c.registers()
				r.F = byte(f)
				i, _ := decode.Of(b)
				checkModelled(t, r, i, b, &c)
			}
		}
	}
}

// P11.3: any bytes end a row behind ten requests at most, and none of them is no request.
func FuzzNext(f *testing.F) {
	f.Add([]byte{0xdd, 0xcb, 1, 2, 3, 4, 5, 6, 7, 8, 9}, byte(0), uint64(1))
	f.Add([]byte{0xed, 0xb0, 7, 0, 0, 0, 0, 0, 0, 0, 0}, byte(0xb0), uint64(2))
	f.Fuzz(func(t *testing.T, got []byte, peek byte, seed uint64) {
		c := chance(seed)
		r := c.registers()
		r.Halt = c.next()%16 == 0
		prefix := !r.Halt && len(got) > 0 && (got[0] == 0xdd || got[0] == 0xfd)
		checkEnds(t, nextOf(r, peek), got, prefix)
		checkEnds(t, acceptOf(r), got, false)
	})
}

// checkEnds looks at all beginnings of got. A row that begins with a prefix may
// be over behind that, and go on behind more.
func checkEnds(t *testing.T, next runner, got []byte, prefix bool) {
	t.Helper()
	over := false
	for n := range len(got) + 1 {
		q, s, done, e := next(got[:n])
		switch {
		case over:
			if e != api.ErrLong || done || q != (api.Req{}) || s != (api.Regs{}) {
				t.Fatalf("behind % x: %+v, %+v, %t, error %d", got[:n], q, s, done, e)
			}
		case done:
			over = !prefix || n > 1
			if e != api.OK || q != (api.Req{}) {
				t.Fatalf("behind % x: %+v, error %d", got[:n], q, e)
			}
		case e != api.OK || step.Check(q) != api.OK || s != (api.Regs{}) || n >= 10:
			t.Fatalf("behind % x: %+v, %+v, error %d", got[:n], q, s, e)
		}
	}
}
