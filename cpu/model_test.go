package cpu_test

import (
	"testing"

	"pendulum/api"
	"pendulum/contend"
	"pendulum/cpu"
	"pendulum/step"
)

// model is a processor that goes row by row: all of a row's requests are done, and
// then it is told at which times.
type model struct {
	s          api.CpuSetup
	banks      [12][16384]byte
	page       api.Page
	clock, seq int64
}

func modelled(s api.CpuSetup) *model {
	m := &model{s: s}
	for _, p := range s.Patches {
		copy(m.banks[p.Bank][p.At:], p.Bytes)
	}
	return m
}

// slot answers where an address is seen.
func slot(p api.Page, at uint16) (bank, place int) {
	place = int(at) & 0x3fff
	quarter := at >> 14
	if p.B&1 == 1 {
		return [4][4]int{{0, 1, 2, 3}, {4, 5, 6, 7}, {4, 5, 6, 3}, {4, 7, 6, 3}}[p.B>>1&3][quarter], place
	}
	first := 8
	if p.A&0x10 != 0 {
		first++
	}
	if p.B&4 != 0 {
		first += 2
	}
	return [4]int{first, 5, 2, int(p.A & 7)}[quarter], place
}

func (m *model) byteAt(at uint16) byte {
	bank, place := slot(m.page, at)
	return m.banks[bank][place]
}

// interrupted tells whether the next row is an interrupt's.
func (m *model) interrupted() bool {
	frame := int64(m.s.Screen.Lines * m.s.Screen.Columns)
	return m.s.Regs.IFF1 && !m.s.Regs.Late && m.clock%frame < int64(m.s.Screen.Pulse)
}

// row does a row, in coming back of its ports, and answers its requests, what
// each came to, and what came back.
func (m *model) row(in func(port uint16) byte) (asked []api.Req, deeds []api.Deed, got []byte) {
	interrupt, peek := m.interrupted(), m.byteAt(m.s.Regs.PC+1)
	var slow []bool
	for {
		q, r, done, _ := step.Next(m.s.Regs, got, peek)
		if interrupt {
			q, r, done, _ = step.Accept(m.s.Regs, got)
		}
		if done {
			m.s.Regs = r
			break
		}
		bank, _ := slot(m.page, q.Addr)
		slow = append(slow, bank < 8 && m.s.Slow>>bank&1 == 1)
		d, back := m.deed(q, in)
		asked, deeds, got = append(asked, q), append(deeds, d), append(got, back)
	}
	at, end, _ := contend.Row(m.s.Screen, asked, slow, m.clock)
	for n := range deeds {
		if deeds[n].Is {
			deeds[n].Event.Time, deeds[n].Event.Chip, deeds[n].Event.Seq = at[n], 1, m.seq
			m.seq++
		}
	}
	m.clock = end
	return asked, deeds, got
}

// deed does a request, without its time.
func (m *model) deed(q api.Req, in func(port uint16) byte) (d api.Deed, back byte) {
	kind := map[int]int{api.ReqFetch: 1, api.ReqRead: 2, api.ReqWrite: 3, api.ReqIn: 4, api.ReqOut: 5, api.ReqAck: 6}[q.Kind]
	if kind == 0 {
		return api.Deed{}, 0
	}
	switch q.Kind {
	case api.ReqFetch, api.ReqRead:
		back = m.byteAt(q.Addr)
	case api.ReqIn:
		back = in(q.Addr)
	case api.ReqAck:
		back = 255
	case api.ReqWrite:
		bank, place := slot(m.page, q.Addr)
		if bank < 8 {
			m.banks[bank][place] = q.Value
		}
		if bank == 5 || bank == 7 {
			d.Bank, d.Place, d.Byte = bank, place, q.Value
		}
	case api.ReqOut:
		free := m.page.A&0x20 == 0
		if free && q.Addr&0xc002 == 0x4000 {
			m.page.A, d.Told = q.Value, true
		}
		if free && q.Addr&0xf002 == 0x1000 {
			m.page.B = q.Value
		}
	}
	d.Is = true
	d.Event = api.Event{Kind: kind, A: int(q.Addr), B: int(back | q.Value)}
	return d, back
}

// chance answers numbers that look like chance, always the same.
type chance uint64

func (c *chance) next() byte {
	*c = *c*6364136223846793005 + 1442695040888963407
	return byte(*c >> 56)
}

func (c *chance) word() uint16 { return uint16(c.next())<<8 | uint16(c.next()) }

// fill answers so many bytes, many of them outs and jumps into all slots.
func (c *chance) fill(count int) []byte {
	b := make([]byte, count)
	for n := range b {
		b[n] = c.next()
		if c.next()%16 == 0 {
			b[n] = []byte{0xd3, 0xed, 0xdd, 0xfd, 0xcb, 0xfb, 0xdb, 0x76, 0x79, 0xb0, 0xfd, 0x7f}[c.next()%12]
		}
	}
	return b
}

func (c *chance) setup() (s api.CpuSetup) {
	s.Screen = screens[int(c.next())%len(screens)]
	s.Slow = c.next()
	for number := range 12 {
		s.Patches = append(s.Patches, api.Patch{Bank: number, Bytes: c.fill(16384)})
	}
	r := &s.Regs
	for _, at := range []*byte{&r.A, &r.F, &r.B, &r.C, &r.D, &r.E, &r.H, &r.L, &r.I, &r.R} {
		*at = c.next()
	}
	for _, at := range []*uint16{&r.IX, &r.IY, &r.SP, &r.PC, &r.WZ, &r.AF2, &r.BC2, &r.DE2, &r.HL2} {
		*at = c.word()
	}
	for _, at := range []*bool{&r.IFF1, &r.IFF2, &r.Late} {
		*at = c.next()%2 == 0
	}
	r.IM = int(c.next()) % 3
	return s
}

// port is what comes back of a port.
func port(at uint16) byte { return byte(at>>8)*5 ^ byte(at) }

// checkRowOf does a row request by request, and holds it against the model's.
func checkRowOf(t *testing.T, c *cpu.Cpu, m *model) {
	t.Helper()
	interrupt, before := m.interrupted(), m.s.Regs
	asked, deeds, got := m.row(port)
	for n, want := range deeds {
		is, l := c.Row()
		if is != interrupt || string(l) != string(got[:n]) || c.Regs() != before {
			t.Fatalf("request %d of % x at %d: Row() = %t, % x, Regs() = %+v, want %+v", n, got, c.Clock(), is, l, c.Regs(), before)
		}
		q, at, ok := c.Next()
		d, e := c.Do(port(q.Addr))
		if q != asked[n] || !ok || d != want || e != api.OK || want.Is && at != want.Event.Time {
			t.Fatalf("request %d of % x: %+v at %d, %+v, error %d, want %+v, %+v", n, got, q, at, d, e, asked[n], want)
		}
	}
	if c.Clock() != m.clock || c.Seq() != m.seq || c.Page() != m.page || c.Regs() != m.s.Regs {
		t.Fatalf("behind % x: at %d, Seq %d, page %02x, %+v, want %d, %d, %02x, %+v",
			got, c.Clock(), c.Seq(), c.Page(), c.Regs(), m.clock, m.seq, m.page, m.s.Regs)
	}
}

// P18.2, P18.3: rows by chance, on all screens, against the model.
func TestAsTheModel(t *testing.T) {
	for seed := range chance(40) {
		r := seed
		s := r.setup()
		c, m := made(t, s), modelled(s)
		for range 3000 {
			checkRowOf(t, c, m)
		}
		for number := range 12 {
			for place := range 16384 {
				if c.In(number, place) != m.banks[number][place] {
					t.Fatalf("In(%d, %d) = %d, want %d", number, place, c.In(number, place), m.banks[number][place])
				}
			}
		}
		for at := range 1 << 16 {
			if c.Byte(uint16(at)) != m.byteAt(uint16(at)) {
				t.Fatalf("Byte(%04x) = %d", at, c.Byte(uint16(at)))
			}
		}
	}
}

// P18.4: a processor that is read, at any request, goes on the same.
func TestReadGoesOnTheSame(t *testing.T) {
	for seed := range chance(6) {
		r := seed + 100
		c := made(t, r.setup())
		for n := range 60 {
			again, e := cpu.Read(c.Bytes())
			if e != api.OK {
				t.Fatalf("Read at %d: error %d", c.Clock(), e)
			}
			for range 40 {
				q, at, ok := c.Next()
				p, when, is := again.Next()
				d, _ := c.Do(port(q.Addr))
				if same, e := again.Do(port(q.Addr)); q != p || at != when || ok != is || d != same || e != api.OK {
					t.Fatalf("%d: %+v at %d, %+v; it was %+v at %d, %+v", n, p, when, same, q, at, d)
				}
			}
			if string(again.Bytes()) != string(c.Bytes()) {
				t.Fatalf("%d: at %d they differ", n, c.Clock())
			}
			do(t, c, n%7, 8)
		}
	}
}

// P18.4: of a screen without a picture's bytes requests last just what step says.
func TestNothingWaitsWithoutAPicture(t *testing.T) {
	for _, s := range []api.Screen{bare, blank, least} {
		r := chance(7)
		u := r.setup()
		u.Screen, u.Slow = s, 255
		c := made(t, u)
		for range 5000 {
			begin := c.Clock()
			q, at, _ := c.Next()
			do(t, c, 1, 0)
			late := int64(0)
			if q.Kind == api.ReqIn || q.Kind == api.ReqOut {
				late = 1
			}
			if at != begin+late || c.Clock() != begin+int64(q.T) {
				t.Fatalf("%+v at %d happens at %d, ends at %d", q, begin, at, c.Clock())
			}
		}
	}
}

// P18.2, P18.4: Run in steps is Run at once, and Do after Do; times rise.
func TestRunInSteps(t *testing.T) {
	for seed := range chance(8) {
		r := seed + 50
		s := r.setup()
		once, steps, single := made(t, s), made(t, s), made(t, s)
		in := func(at uint16, _ int64) byte { return port(at) }
		l := once.Run(20000, in)
		var k []api.Event
		for to := int64(0); to < 20000; to += int64(r.next()) {
			k = append(k, steps.Run(to, in)...)
		}
		k = append(k, steps.Run(20000, in)...)
		for n, x := range l {
			if k[n] != x || n > 0 && x.Time <= l[n-1].Time || x.Seq != int64(n) || x.Time >= 20000 {
				t.Fatalf("event %d: %+v, %+v", n, x, k[n])
			}
		}
		n := 0
		for q, at, _ := single.Next(); at < 20000; q, at, _ = single.Next() {
			if d := do(t, single, 1, port(q.Addr)); d.Is {
				if d.Event != l[n] {
					t.Fatalf("event %d: %+v, want %+v", n, d.Event, l[n])
				}
				n++
			}
		}
		if len(k) != len(l) || n != len(l) || string(once.Bytes()) != string(steps.Bytes()) || string(once.Bytes()) != string(single.Bytes()) {
			t.Errorf("%d, %d and %d events", len(l), len(k), n)
		}
	}
}

// P18.2 to P18.4: any code, any registers, against the model.
func FuzzDo(f *testing.F) {
	f.Add([]byte{0x3e, 5, 0xd3, 0xfe}, uint64(1), byte(0))
	f.Add([]byte{0xed, 0xb0, 0xdd, 0xfd, 0xfb, 0x76}, uint64(2), byte(0xaa))
	f.Fuzz(func(t *testing.T, code []byte, seed uint64, slow byte) {
		r := chance(seed)
		s := r.setup()
		s.Slow, s.Patches = slow, s.Patches[:2]
		for number := range 12 {
			s.Patches = append(s.Patches, api.Patch{Bank: number, At: int(s.Regs.PC) & 0x1fff, Bytes: code[:min(len(code), 8192)]})
		}
		c, m := made(t, s), modelled(s)
		for range 200 {
			checkRowOf(t, c, m)
		}
	})
}
