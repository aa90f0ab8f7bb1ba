package ula_test

import (
	"bytes"
	"slices"
	"testing"

	"pendulum/api"
	"pendulum/octet"
	"pendulum/tstate"
	"pendulum/ula"
)

// model is a chip that has its frame drawn, and its keys touched one by one.
type model struct {
	s            api.UlaSetup
	frame        []api.Event // without times and bytes; A without the bank
	banks        [12][16384]byte
	border, bits int
	told         int
	floats       byte
	clock, seq   int64
	touched      int
	down         [40]bool
	ear          bool
}

func modelled(s api.UlaSetup) *model {
	m := &model{s: s, frame: drawn(s.Screen), border: 7, floats: 255}
	for _, p := range s.Patches {
		copy(m.banks[p.Bank][p.At:], p.Bytes)
	}
	return m
}

// drawn answers what is done at each T-state of a frame: borders all over, the
// picture over them, its bytes over that.
func drawn(s api.Screen) []api.Event {
	l := make([]api.Event, s.Lines*s.Columns)
	for at := range l {
		if column := at % s.Columns; column%8 == 0 {
			l[at] = api.Event{Kind: api.EvBorder, A: column}
		}
	}
	for y := range s.Rows {
		from := (s.Top+y)*s.Columns + s.Left
		clear(l[from : from+4*s.Wide])
		for x := range s.Wide {
			at := from + x/2*8 + x%2*2
			l[at] = api.Event{Kind: api.EvPixel, A: 2048*(y/64) + 256*(y%8) + 32*(y/8%8) + x}
			l[at+1] = api.Event{Kind: api.EvAttr, A: 6144 + 32*(y/8) + x}
		}
	}
	return l
}

func (m *model) tick() (l []api.Event) {
	if m.bits != m.told {
		m.told = m.bits
		l = append(l, did(m.clock, m.seq, api.EvBeep, 0, m.bits))
		m.seq++
	}
	x := m.frame[m.clock%int64(len(m.frame))]
	m.floats = 255
	switch x.Kind {
	case api.EvBorder:
		x.B = m.border
	case api.EvPixel, api.EvAttr:
		bank := 5
		if m.s.Shadow {
			bank = 7
		}
		m.floats = m.banks[bank][x.A]
		x.A, x.B = x.A+bank*16384, int(m.floats)
	}
	if x.Kind != 0 {
		l = append(l, did(m.clock, m.seq, x.Kind, x.A, x.B))
		m.seq++
	}
	m.clock++
	return l
}

func (m *model) out(class int, v byte) {
	switch class {
	case 1:
		m.border, m.bits = int(v)%8, int(v)/8%4
	case 2:
		m.s.Shadow = v/8%2 == 1
	}
}

func (m *model) in(class int, high byte) byte {
	switch class {
	case 1:
		return m.keys(high)
	case 8:
		return m.floats
	}
	return 255
}

// keys touches what is to be touched up to the clock.
func (m *model) keys(high byte) byte {
	for ; m.touched < len(m.s.Touches) && m.s.Touches[m.touched].Time <= m.clock; m.touched++ {
		x := m.s.Touches[m.touched]
		if x.What == api.TouchEar {
			m.ear = x.On
		} else {
			m.down[x.Key] = x.On
		}
	}
	var up [5]bool
	for bit := range up {
		up[bit] = true
		for row := range 8 {
			if high/(1<<row)%2 == 0 && m.down[5*row+bit] {
				up[bit] = false
			}
		}
	}
	v := byte(0xa0)
	if m.ear {
		v += 0x40
	}
	for bit, is := range up {
		if is {
			v += 1 << bit
		}
	}
	return v
}

// bytes answers the chip's bytes.
func (m *model) bytes(t testing.TB) []byte {
	screen, _ := tstate.Bytes(m.s.Screen)
	var b []byte
	for _, p := range [][]byte{screen, touchBytes(t, m.s.Touches), m.banks[5][:], m.banks[7][:]} {
		b, _ = octet.Block(b, p)
	}
	shadow := 0
	if m.s.Shadow {
		shadow = 1
	}
	for _, n := range []int{shadow, m.border, m.bits, m.told, int(m.floats), int(m.clock), int(m.seq)} {
		b = octet.Number(b, uint64(n))
	}
	return b
}

// checkTick holds a Tick against the model's.
func checkTick(t *testing.T, u *ula.Ula, m *model) {
	t.Helper()
	want := m.tick()
	if l := u.Tick(); !slices.Equal(l, want) {
		t.Fatalf("%+v: Tick() = %+v, want %+v", m.s.Screen, l, want)
	}
	if v := u.In(api.PortNone, 0); v != m.floats || u.Clock() != m.clock || u.Seq() != m.seq {
		t.Fatalf("%+v: at %d, Seq %d floats %d, want %d, %d, %d", m.s.Screen, u.Clock(), u.Seq(), v, m.clock, m.seq, m.floats)
	}
}

// chance answers numbers that look like chance, always the same.
type chance uint64

func (c *chance) next() byte {
	*c = *c*6364136223846793005 + 1442695040888963407
	return byte(*c >> 56)
}

func (c *chance) below(n int) int {
	return (int(c.next())<<16 | int(c.next())<<8 | int(c.next())) % n
}

// patches answers such as fill the banks, and lie over one another.
func (c *chance) patches() (l []api.Patch) {
	for bank := range 12 {
		for _, at := range []int{0, c.below(16384)} {
			b := make([]byte, 16384-at)
			for n := range b {
				b[n] = c.next()
			}
			l = append(l, api.Patch{Bank: bank, At: at, Bytes: b})
		}
	}
	return l
}

// touches answers so many, the first one at from.
func (c *chance) touches(from int64, count int) (l []api.Touch) {
	for range count {
		l = append(l, key(from, c.below(40), c.next()%3 > 0))
		if c.next()%8 == 0 {
			l = append(l, ear(from, c.next()%2 == 0))
		}
		from += int64(max(0, c.below(12)-4))
	}
	return l
}

// both answers a chip, and the model of it.
func (c *chance) both(t testing.TB, s api.UlaSetup) (*ula.Ula, *model) {
	t.Helper()
	return made(t, s), modelled(s)
}

// deed does one thing with a chip and with the model, and holds them against one
// another.
func (c *chance) deed(t *testing.T, u *ula.Ula, m *model) {
	t.Helper()
	switch v := c.next(); c.below(12) {
	case 0, 1:
		class := c.below(10)
		ok(t, u.Out(class, v))
		m.out(class, v)
	case 2:
		ok(t, u.Out(api.PortUla, v))
		m.out(api.PortUla, v)
	case 3, 4:
		bank, place := 5+c.below(2)*2, c.below(6912)
		ok(t, u.Put(bank, place, v))
		m.banks[bank][place] = v
	case 5:
		if e := u.Put(c.below(5), c.below(16384), v); e != api.ErrArg {
			t.Fatalf("Put: error %d", e)
		}
	case 6, 7, 8:
		for _, class := range []int{api.PortUla, c.below(10)} {
			if got, want := u.In(class, v), m.in(class, v); got != want {
				t.Fatalf("at %d: In(%d, %02x) = %02x, want %02x", m.clock, class, v, got, want)
			}
		}
	case 9:
		n := slices.IndexFunc(m.s.Touches, func(x api.Touch) bool { return x.Time >= m.clock })
		if n < 0 {
			n = len(m.s.Touches)
		}
		n = max(n, m.touched)
		l := append(slices.Clone(m.s.Touches[:n]), c.touches(m.clock+1, c.below(6))...)
		ok(t, u.Touch(l))
		m.s.Touches = l
	default:
		for range c.below(40) {
			checkTick(t, u, m)
		}
	}
	if u.Border() != m.border || u.Shadow() != m.s.Shadow {
		t.Fatalf("Border() = %d, Shadow() = %t", u.Border(), u.Shadow())
	}
}

// P19.2, P19.3: deeds by chance, on all screens, against the model.
func TestAsTheModel(t *testing.T) {
	for seed := range chance(35) {
		r := seed
		s := api.UlaSetup{Screen: screens[int(seed)%len(screens)], Patches: r.patches(), Touches: r.touches(0, 60), Shadow: seed%3 == 0}
		u, m := r.both(t, s)
		for n := range 2000 {
			r.deed(t, u, m)
			if n%100 == 0 && !bytes.Equal(u.Bytes(), m.bytes(t)) {
				t.Fatalf("%+v: at %d its bytes are others", s.Screen, m.clock)
			}
		}
	}
}

// P19.4: a chip that is read, at any time, goes on the same.
func TestReadGoesOnTheSame(t *testing.T) {
	for seed := range chance(14) {
		r := seed + 100
		s := api.UlaSetup{Screen: screens[int(seed)%len(screens)], Patches: r.patches(), Touches: r.touches(0, 60)}
		u, m := r.both(t, s)
		for range 60 {
			again, e := ula.Read(u.Bytes())
			if e != api.OK {
				t.Fatalf("Read at %d: error %d", u.Clock(), e)
			}
			u = again
			for range 20 {
				r.deed(t, u, m)
			}
			if !bytes.Equal(u.Bytes(), m.bytes(t)) {
				t.Fatalf("at %d they differ", u.Clock())
			}
		}
	}
}

// P19.1 to P19.4: any deeds, from any setup, against the model.
func FuzzDeeds(f *testing.F) {
	f.Add(uint64(1), byte(0), []byte{255, 1, 2}, 100)
	f.Add(uint64(2), byte(5), []byte{7}, 6144)
	f.Fuzz(func(t *testing.T, seed uint64, screen byte, b []byte, place int) {
		r := chance(seed)
		s := api.UlaSetup{Screen: screens[int(screen)%len(screens)], Touches: r.touches(0, 30), Shadow: seed%2 == 0}
		s.Patches = []api.Patch{{Bank: 5, At: place, Bytes: b}, {Bank: 7, At: place, Bytes: b}}
		if ula.CheckSetup(s) != api.OK {
			if u, e := ula.New(s); u != nil || e != api.ErrArg {
				t.Fatalf("New: error %d", e)
			}
			return
		}
		u, m := r.both(t, s)
		for range 200 {
			r.deed(t, u, m)
		}
		if !bytes.Equal(u.Bytes(), m.bytes(t)) {
			t.Fatalf("at %d its bytes are others", u.Clock())
		}
	})
}
