package cpu_test

import (
	"slices"
	"testing"

	"pendulum/api"
	"pendulum/cpu"
)

// checkRow looks at the row.
func checkRow(t *testing.T, c *cpu.Cpu, interrupt bool, got ...byte) {
	t.Helper()
	if is, l := c.Row(); is != interrupt || !slices.Equal(l, got) {
		t.Errorf("at %d: Row() = %t, % x, want %t, % x", c.Clock(), is, l, interrupt, got)
	}
}

// P18.3: in a row Regs are those at its beginning; where it ends, those behind it,
// and the next one begins at once.
func TestRowGoesOn(t *testing.T) {
	s := setup(0x21, 0x34, 0x12, 0xdd, 0xcb, 5, 0xc6)
	s.Regs.IX = 0x8000
	c := made(t, s)
	checkRow(t, c, false)
	do(t, c, 1, 0)
	checkRow(t, c, false, 0x21)
	do(t, c, 1, 0)
	checkRow(t, c, false, 0x21, 0x34)
	if c.Regs() != s.Regs {
		t.Errorf("Regs() = %+v", c.Regs())
	}
	do(t, c, 1, 0)
	checkRow(t, c, false)
	if r := c.Regs(); r.PC != 3 || r.H != 0x12 || r.L != 0x34 || r.R != 1 {
		t.Errorf("Regs() = %+v", r)
	}
	between := c.Regs()
	do(t, c, 7, 9)
	checkRow(t, c, false, 0xdd, 0xcb, 5, 0xc6, 0, 0, 0)
	if c.Regs() != between {
		t.Errorf("Regs() = %+v", c.Regs())
	}
	do(t, c, 1, 9)
	checkRow(t, c, false)
	if c.Regs().PC != 7 || c.In(2, 5) != 1 {
		t.Errorf("Regs() = %+v, %d is written", c.Regs(), c.In(2, 5))
	}
}

// P18.3: got is a copy.
func TestRowIsACopy(t *testing.T) {
	c := made(t, setup(0x21, 0x34, 0x12))
	do(t, c, 2, 0)
	_, got := c.Row()
	clear(got[:cap(got)])
	checkRow(t, c, false, 0x21, 0x34)
	_, got = c.Row()
	do(t, c, 1, 0)
	do(t, c, 1, 0)
	if !slices.Equal(got, []byte{0x21, 0x34}) {
		t.Errorf("it became % x", got)
	}
}

// ready answers a setup that takes interrupts, with code in bank 2, where PC is.
func ready(im int, code ...byte) api.CpuSetup {
	return with(func(s *api.CpuSetup) {
		s.Regs.IFF1, s.Regs.IFF2, s.Regs.IM, s.Regs.PC, s.Regs.I = true, true, im, 0x8000, 0x90
		s.Patches = []api.Patch{{Bank: 2, Bytes: code}, {Bank: 2, At: 0x10ff, Bytes: []byte{0x34, 0x12}}}
	})
}

// P18.2: an interrupt's row, in all modes; 255 comes back, whatever is handed in.
func TestInterruptsRow(t *testing.T) {
	for im, want := range []uint16{0x38, 0x38, 0x1234} {
		s := ready(im)
		c := made(t, s)
		checkRow(t, c, true)
		if q, when, ok := c.Next(); q != (api.Req{Kind: api.ReqAck, Addr: 0x8000, T: 7}) || when != 0 || !ok {
			t.Errorf("Next() = %+v, %d, %t", q, when, ok)
		}
		checkDeeds(t, c, 8, plain(0, 0, api.EvAck, 0x8000, 255))
		checkRow(t, c, true, 255)
		checkDeeds(t, c, 8, plain(7, 1, api.EvWrite, 0xfffe, 0x80))
		checkRow(t, c, true, 255, 0)
		if c.Regs() != s.Regs {
			t.Errorf("Regs() = %+v", c.Regs())
		}
		checkDeeds(t, c, 8, plain(10, 2, api.EvWrite, 0xfffd, 0))
		if im == 2 {
			checkRow(t, c, true, 255, 0, 0)
			checkDeeds(t, c, 8, plain(13, 3, api.EvRead, 0x90ff, 0x34), plain(16, 4, api.EvRead, 0x9100, 0x12))
		}
		checkRow(t, c, false)
		if r := c.Regs(); r.PC != want || r.IFF1 || r.IFF2 || r.R != 1 || r.SP != 0xfffd {
			t.Errorf("mode %d: Regs() = %+v", im, r)
		}
	}
}

// P18.2: whether an interrupt begins at a clock, of a row that ends there.
func TestInterruptsAtThePulse(t *testing.T) {
	const frame = 311 * 228
	for _, x := range []struct {
		end  int64
		want bool
	}{
		{4, true}, {35, true}, {36, false}, {37, false}, {frame - 1, false}, {frame, true}, {frame + 35, true}, {frame + 36, false}, {9*frame + 1, true},
		{15506000 * frame, true}, {15506000*frame - 1, false},
	} {
		s := ready(1)
		s.Regs.IFF1 = false
		c, e := cpu.Read(told(t, made(t, s), func(p *parts) {
			p.clock = x.end - 4
			p.regs.IFF1 = true
		}))
		if e != api.OK {
			t.Fatalf("Read: error %d", e)
		}
		checkRow(t, c, false)
		do(t, c, 1, 0)
		if c.Clock() != x.end {
			t.Fatalf("Clock() = %d", c.Clock())
		}
		checkRow(t, c, x.want)
	}
}

// P18.2: without IFF1, and while it is late, no interrupt begins.
func TestNoInterrupt(t *testing.T) {
	for _, change := range []func(r *api.Regs){
		func(r *api.Regs) { r.IFF1 = false },
		func(r *api.Regs) { r.Late = true },
		func(r *api.Regs) { r.IFF1, r.Late = false, true },
	} {
		s := ready(1)
		change(&s.Regs)
		c := made(t, s)
		checkRow(t, c, false)
		if d := do(t, c, 1, 0); d.Event.Kind != api.EvFetch {
			t.Errorf("%+v", d)
		}
	}
}

// P18.2: EI is late by one instruction, and that is done.
func TestBehindEI(t *testing.T) {
	s := ready(1, 0xfb, 0x03, 0)
	s.Regs.IFF1, s.Regs.IFF2 = false, false
	c := made(t, s)
	checkDeeds(t, c, 0, plain(0, 0, api.EvFetch, 0x8000, 0xfb), plain(4, 1, api.EvFetch, 0x8001, 0x03), api.Deed{}, plain(10, 2, api.EvAck, 0x8002, 255))
}

// P18.2: a prefix ahead of another is an instruction of its own, behind which no
// interrupt comes; the byte behind is looked at where it is seen.
func TestBehindALonePrefix(t *testing.T) {
	s := ready(1, 0xdd, 0xfd, 0x23, 0)
	s.Regs.Late = true
	c := made(t, s)
	do(t, c, 1, 0)
	checkRow(t, c, false)
	if r := c.Regs(); r.PC != 0x8001 || !r.Late {
		t.Errorf("Regs() = %+v", r)
	}
	do(t, c, 1, 0)
	checkRow(t, c, false, 0xfd)
	do(t, c, 2, 0)
	checkRow(t, c, true)
	if r := c.Regs(); r.PC != 0x8003 || r.IY != 1 {
		t.Errorf("Regs() = %+v", r)
	}
}

// P18.2: the byte behind a prefix may be in the next slot, or around the end.
func TestPrefixAtASlotsEnd(t *testing.T) {
	for _, at := range []uint16{0x3fff, 0x7fff, 0xbfff, 0xffff} {
		bank, place := slot(api.Page{}, at)
		behind, begin := slot(api.Page{}, at+1)
		for _, v := range []byte{0xdd, 0xed, 0xfd} {
			c := made(t, with(func(s *api.CpuSetup) {
				s.Regs.PC = at
				s.Patches = []api.Patch{{Bank: bank, At: place, Bytes: []byte{0xdd}}, {Bank: behind, At: begin, Bytes: []byte{v}}}
			}))
			do(t, c, 1, 0)
			if r := c.Regs(); r.PC != at+1 || !r.Late {
				t.Errorf("behind dd at %04x, ahead of %02x: %+v", at, v, r)
			}
		}
	}
}

// P18.2: while it halts it fetches at PC, till an interrupt ends that.
func TestHalt(t *testing.T) {
	s := ready(1, 0x76, 0x3c)
	s.Screen, s.Regs.Late = small, true
	s.Screen.Pulse = 4
	c := made(t, s)
	checkDeeds(t, c, 0, plain(0, 0, api.EvFetch, 0x8000, 0x76))
	for n := int64(1); n < 80; n++ {
		checkDeeds(t, c, 0, plain(4*n, n, api.EvFetch, 0x8001, 0x3c))
		if !c.Regs().Halt {
			t.Fatalf("at %d: %+v", c.Clock(), c.Regs())
		}
	}
	checkDeeds(t, c, 0, plain(320, 80, api.EvAck, 0x8001, 255))
	do(t, c, 2, 0)
	if r := c.Regs(); r.Halt || r.PC != 0x38 || r.SP != 0xfffd {
		t.Errorf("Regs() = %+v", r)
	}
}

// P18.2: an interrupt is taken between two steps of a block that moves, and the
// block goes on behind it.
func TestInterruptWithinABlock(t *testing.T) {
	s := ready(1, 0xed, 0xb0)
	s.Screen, s.Regs.Late = small, true
	s.Screen.Pulse = 30
	s.Regs.B, s.Regs.C, s.Regs.D, s.Regs.H = 0, 100, 0xa0, 0x40
	s.Patches = append(s.Patches, api.Patch{Bank: 8, At: 0x38, Bytes: []byte{0xfb, 0xc9}}, api.Patch{Bank: 5, Bytes: []byte{1, 2, 3, 4, 5}})
	c := made(t, s)
	within := 0
	for c.Regs().PC != 0x8002 {
		if d := do(t, c, 1, 0); d.Event.Kind == api.EvAck && d.Event.A == 0x8000 {
			within++
		}
	}
	if r := c.Regs(); within < 3 || r.B != 0 || r.C != 0 || r.H != 0x40 || r.L != 100 || c.In(2, 0x2004) != 5 {
		t.Errorf("%d interrupts, %+v", within, r)
	}
}
