package cpu_test

import (
	"math"
	"slices"
	"testing"

	"pendulum/api"
	"pendulum/cpu"
)

// checkDeeds does a request for each deed that is wanted.
func checkDeeds(t *testing.T, c *cpu.Cpu, in byte, want ...api.Deed) {
	t.Helper()
	for n, w := range want {
		_, at, ok := c.Next()
		d, e := c.Do(in)
		if e != api.OK || !ok || d != w || w.Is && at != w.Event.Time {
			t.Fatalf("request %d at %d: %+v, error %d, want %+v", n, at, d, e, w)
		}
	}
}

func plain(at, seq int64, kind, a, b int) api.Deed {
	return api.Deed{Event: event(at, seq, kind, a, b), Is: true}
}

func put(at, seq int64, a, b, bank, place int) api.Deed {
	d := plain(at, seq, api.EvWrite, a, b)
	d.Bank, d.Place, d.Byte = bank, place, byte(b)
	return d
}

// P18.2: a byte that is put into the bank 5 or 7 is told, whatever slot has it;
// of others, and of what can only be read, the event alone.
func TestDeedsOfWrites(t *testing.T) {
	write := func(hl uint16, page, v byte) api.Deed {
		c := made(t, with(func(s *api.CpuSetup) {
			s.Regs.H, s.Regs.L, s.Regs.A = byte(hl>>8), byte(hl), page
		}, 0x01, 0xfd, 0x7f, 0xed, 0x79, 0x36, v))
		do(t, c, 8, 0)
		before := c.Byte(hl)
		d := do(t, c, 1, 0)
		bank, _ := slot(api.Page{A: page}, hl)
		if stays := bank >= 8; stays != (c.Byte(hl) == before) {
			t.Errorf("behind a write at %04x there is %d", hl, c.Byte(hl))
		}
		return d
	}
	for _, x := range []struct {
		hl   uint16
		page byte
		want api.Deed
	}{
		{0x3fff, 0, plain(29, 8, api.EvWrite, 0x3fff, 9)},
		{0x4000, 0, put(29, 8, 0x4000, 9, 5, 0)},
		{0x7fff, 0, put(29, 8, 0x7fff, 9, 5, 16383)},
		{0x8000, 0, plain(29, 8, api.EvWrite, 0x8000, 9)},
		{0xc001, 0, plain(29, 8, api.EvWrite, 0xc001, 9)},
		{0xc001, 4, plain(29, 8, api.EvWrite, 0xc001, 9)},
		{0xc001, 5, put(29, 8, 0xc001, 9, 5, 1)},
		{0xc001, 6, plain(29, 8, api.EvWrite, 0xc001, 9)},
		{0xffff, 7, put(29, 8, 0xffff, 9, 7, 16383)},
		{0xc123, 15, put(29, 8, 0xc123, 9, 7, 0x123)},
	} {
		if d := write(x.hl, x.page, 9); d != x.want {
			t.Errorf("a write at %04x, page %d: %+v, want %+v", x.hl, x.page, d, x.want)
		}
	}
	if d := write(0x4000, 1, 1); d != put(29, 8, 0x4000, 1, 5, 0) {
		t.Errorf("%+v", d)
	}
}

// P18.2: a byte 0 that is put is told, too.
func TestDeedOfAZero(t *testing.T) {
	s := with(func(s *api.CpuSetup) {
		s.Regs.H = 0x40
		s.Patches = append(s.Patches, api.Patch{Bank: 5, Bytes: []byte{7}})
	}, 0x36, 0)
	c := made(t, s)
	do(t, c, 2, 0)
	checkDeeds(t, c, 0, put(7, 2, 0x4000, 0, 5, 0))
	if c.In(5, 0) != 0 {
		t.Error("it isn't put")
	}
}

// outs answers a processor ahead of an OUT (C),A of that port and byte.
func outs(t *testing.T, port uint16, v byte, page ...byte) *cpu.Cpu {
	t.Helper()
	code := []byte{0x01, byte(port), byte(port >> 8), 0x3e, v, 0xed, 0x79}
	for _, a := range page { // told ahead of it
		code = append([]byte{0x01, 0xfd, 0x7f, 0x3e, a, 0xed, 0x79}, code...)
	}
	c := made(t, setup(code...))
	do(t, c, 8*len(page)+7, 0)
	return c
}

// P18.2: what the memory is told, and what not.
func TestDeedsOfOuts(t *testing.T) {
	for _, x := range []struct {
		port uint16
		v    byte
		page api.Page
		told bool
	}{
		{0x7ffd, 0x18, api.Page{A: 0x18}, true},
		{0x7ffd, 0, api.Page{}, true},
		{0x4000, 0x27, api.Page{A: 0x27}, true}, // the picture's chip's, too
		{0x1ffd, 5, api.Page{B: 5}, false},
		{0x1000, 7, api.Page{B: 7}, false},
		{0x7fff, 0x18, api.Page{}, false},
		{0xfffd, 0x18, api.Page{}, false},
		{0xbffd, 0x18, api.Page{}, false},
		{0x2ffd, 0x18, api.Page{}, false},
		{0x3ffd, 0x18, api.Page{}, false},
		{0x00fe, 0x18, api.Page{}, false},
		{0x00ff, 0x18, api.Page{}, false},
	} {
		c := outs(t, x.port, x.v)
		d := do(t, c, 1, 0)
		if d.Told != x.told || c.Page() != x.page {
			t.Errorf("out %04x of %d: told %t, page %02x", x.port, x.v, d.Told, c.Page())
		}
		want := api.Deed{Event: event(d.Event.Time, 7, api.EvOut, int(x.port), int(x.v)), Is: true, Told: x.told}
		if d != want || d.Event.Time != 26 {
			t.Errorf("out %04x of %d: %+v", x.port, x.v, d)
		}
	}
}

// P18.2: an error changes nothing.
func TestOutsBehindALock(t *testing.T) {
	for _, port := range []uint16{0x7ffd, 0x1ffd, 0x4000} {
		c := outs(t, port, 7, 0x23)
		if c.Page() != (api.Page{A: 0x23}) {
			t.Fatalf("Page() = %02x", c.Page())
		}
		d := do(t, c, 1, 0)
		if d.Told || !d.Is || d.Event.Kind != api.EvOut || c.Page() != (api.Page{A: 0x23}) {
			t.Errorf("out %04x: %+v, page %02x", port, d, c.Page())
		}
	}
}

// P18.2: the lock itself is told.
func TestTheLockIsTold(t *testing.T) {
	c := outs(t, 0x7ffd, 0x20)
	if d := do(t, c, 1, 0); !d.Told || c.Page() != (api.Page{A: 0x20}) {
		t.Errorf("%+v, page %02x", d, c.Page())
	}
}

// P18.2: behind an out the next byte comes from the new bank.
func TestBanksChangeUnderTheProgram(t *testing.T) {
	s := with(func(s *api.CpuSetup) {
		s.Regs.PC, s.Regs.A, s.Regs.B, s.Regs.C = 0xc000, 3, 0x7f, 0xfd
		s.Patches = []api.Patch{{Bank: 0, Bytes: []byte{0xed, 0x79, 0x11}}, {Bank: 3, Bytes: []byte{0, 0, 0x22, 0x33}}}
	})
	c := made(t, s)
	do(t, c, 3, 0)
	checkDeeds(t, c, 0, plain(12, 3, api.EvFetch, 0xc002, 0x22), plain(16, 4, api.EvRead, 0xc003, 0x33))
}

// P18.2: what comes in, 0 and 255 too; of other requests it doesn't count.
func TestIn(t *testing.T) {
	for _, v := range []byte{0, 1, 0xa5, 0xff} {
		c := made(t, setup(0x3e, 0x12, 0xdb, 0xfe, 0x32, 0, 0x80))
		for range 4 {
			do(t, c, 1, ^v)
		}
		if q, at, ok := c.Next(); q != (api.Req{Kind: api.ReqIn, Addr: 0x12fe, T: 4}) || at != 15 || !ok {
			t.Fatalf("Next() = %+v, %d, %t", q, at, ok)
		}
		checkDeeds(t, c, v, plain(15, 4, api.EvIn, 0x12fe, int(v)))
		if c.Regs().A != v || c.Clock() != 18 {
			t.Errorf("A is %d at %d", c.Regs().A, c.Clock())
		}
		do(t, c, 4, ^v)
		if c.In(2, 0) != v {
			t.Errorf("%d is written", c.In(2, 0))
		}
	}
}

// P18.2: an idle one lasts, and is no event; what is numbered goes on by one
// behind it.
func TestIdle(t *testing.T) {
	c := made(t, setup(0x03, 0xc5))
	checkDeeds(t, c, 0, plain(0, 0, api.EvFetch, 0, 3))
	if q, at, ok := c.Next(); q != (api.Req{Kind: api.ReqIdle, T: 2}) || at != 4 || !ok {
		t.Errorf("Next() = %+v, %d, %t", q, at, ok)
	}
	if _, got := c.Row(); !slices.Equal(got, []byte{3}) || c.Seq() != 1 {
		t.Errorf("got % x, Seq %d", got, c.Seq())
	}
	checkDeeds(t, c, 9, api.Deed{}, plain(6, 1, api.EvFetch, 1, 0xc5), api.Deed{}, plain(11, 2, api.EvWrite, 0xfffe, 0), plain(14, 3, api.EvWrite, 0xfffd, 1))
	if c.Clock() != 17 || c.Seq() != 4 || c.Regs().SP != 0xfffd {
		t.Errorf("at %d, Seq %d, %+v", c.Clock(), c.Seq(), c.Regs())
	}
}

// P18.2: Next changes nothing.
func TestNextAgain(t *testing.T) {
	c := made(t, setup(0x34, 0xdb, 1))
	for range 20 {
		before := c.Bytes()
		q, at, ok := c.Next()
		if again, when, is := c.Next(); again != q || when != at || is != ok || !slices.Equal(c.Bytes(), before) {
			t.Fatalf("Next() = %+v, %d, %t, then %+v, %d, %t", q, at, ok, again, when, is)
		}
		do(t, c, 1, 5)
	}
}

// P18.2: a fetch from a slow bank waits for the picture; a port's waits are ahead
// of its second T-state.
func TestWaits(t *testing.T) {
	with := func(slow byte) *cpu.Cpu {
		c := made(t, with(func(s *api.CpuSetup) {
			s.Slow, s.Regs.PC, s.Regs.A = slow, 0x4000, 0x40
			s.Patches = []api.Patch{{Bank: 5, Bytes: []byte{0xdb, 0xfe}}}
		}))
		return at(t, c, 14377, 0)
	}
	slow := with(1 << 5)
	checkDeeds(t, slow, 3, plain(14383, 0, api.EvFetch, 0x4000, 0xdb), plain(14391, 1, api.EvRead, 0x4001, 0xfe))
	if slow.Clock() != 14394 {
		t.Errorf("Clock() = %d", slow.Clock())
	}
	// The port is slow, too: its first T-state waits 5, its second one not any more.
	checkDeeds(t, slow, 3, plain(14400, 2, api.EvIn, 0x40fe, 3))
	if slow.Clock() != 14403 {
		t.Errorf("Clock() = %d", slow.Clock())
	}
	for _, others := range []byte{0, 0xff &^ (1 << 5)} {
		c := with(others)
		checkDeeds(t, c, 3, plain(14377, 0, api.EvFetch, 0x4000, 0xdb), plain(14381, 1, api.EvRead, 0x4001, 0xfe), plain(14391, 2, api.EvIn, 0x40fe, 3))
	}
}

// at answers the processor of these bytes at another time.
func at(t testing.TB, c *cpu.Cpu, clock, seq int64) *cpu.Cpu {
	t.Helper()
	c, e := cpu.Read(told(t, c, func(p *parts) { p.clock, p.seq = clock, seq }))
	if e != api.OK {
		t.Fatalf("Read at %d, Seq %d: error %d", clock, seq, e)
	}
	return c
}

// P18.2: the end.
func TestEnd(t *testing.T) {
	const latest = api.MaxTime - 1000
	for _, x := range []struct {
		clock int64
		ok    bool
	}{{latest - 1, true}, {latest, true}, {latest + 1, false}, {api.MaxTime - 1, false}, {api.MaxTime, false}} {
		c := at(t, made(t, setup(0)), x.clock, 77)
		q, when, ok := c.Next()
		if ok != x.ok || ok && (q.Kind != api.ReqFetch || when != x.clock) || !ok && (q != (api.Req{}) || when != 0) {
			t.Errorf("Next() at %d = %+v, %d, %t", x.clock, q, when, ok)
		}
		before := c.Bytes()
		d, e := c.Do(0)
		if x.ok {
			if e != api.OK || d != plain(x.clock, 77, api.EvFetch, 0, 0) || c.Clock() != x.clock+4 {
				t.Errorf("Do() at %d = %+v, error %d", x.clock, d, e)
			}
			continue
		}
		if e != api.ErrState || d != (api.Deed{}) || !slices.Equal(c.Bytes(), before) {
			t.Errorf("Do() at %d = %+v, error %d", x.clock, d, e)
		}
		if l := c.Run(math.MaxInt64, nil); len(l) != 0 || c.Clock() != x.clock {
			t.Errorf("Run() at %d = %+v", x.clock, l)
		}
	}
	c := at(t, made(t, setup(0)), latest-9, 0)
	if l := c.Run(math.MaxInt64, nil); len(l) != 3 || c.Clock() != latest+3 || l[2].Time != latest-1 {
		t.Errorf("Run() to the end = %+v, at %d", l, c.Clock())
	}
}

// P18.2: requests that happen below to, not those that begin there.
func TestRunTo(t *testing.T) {
	// The port's request begins at 7, and happens at 8.
	for _, x := range []struct {
		to   int64
		want int
	}{{math.MinInt64, 0}, {-1, 0}, {0, 0}, {1, 1}, {4, 1}, {5, 2}, {7, 2}, {8, 2}, {9, 3}, {11, 3}, {12, 4}} {
		c := made(t, setup(0xd3, 0xfe))
		l := c.Run(x.to, nil)
		if len(l) != x.want || int(c.Seq()) != x.want {
			t.Errorf("Run(%d) = %+v", x.to, l)
		}
		if _, when, ok := c.Next(); !ok || when < x.to {
			t.Errorf("behind Run(%d) the next request is at %d", x.to, when)
		}
		if again := c.Run(x.to, nil); len(again) != 0 {
			t.Errorf("Run(%d) again = %+v", x.to, again)
		}
	}
}

// P18.2: idle requests below to are done, without an event.
func TestRunOfIdle(t *testing.T) {
	c := made(t, setup(0x03))
	if l := c.Run(4, nil); len(l) != 1 || c.Clock() != 4 {
		t.Errorf("Run(4) = %+v, at %d", l, c.Clock())
	}
	if l := c.Run(5, nil); len(l) != 0 || c.Clock() != 6 {
		t.Errorf("Run(5) = %+v, at %d", l, c.Clock())
	}
}

// P18.2: in is asked once of each ReqIn, with its port and its time, in order.
func TestRunAsksIn(t *testing.T) {
	type ask struct {
		port uint16
		at   int64
	}
	var asked []ask
	c := made(t, setup(0x3e, 0x12, 0xdb, 0xfe, 0xd3, 1, 0xdb, 0xff, 0x47))
	l := c.Run(52, func(port uint16, at int64) byte {
		asked = append(asked, ask{port, at})
		return byte(len(asked) * 0x41)
	})
	if want := []ask{{0x12fe, 15}, {0x41ff, 37}}; !slices.Equal(asked, want) {
		t.Errorf("asked of %v, want %v", asked, want)
	}
	want := []api.Event{
		event(0, 0, api.EvFetch, 0, 0x3e), event(4, 1, api.EvRead, 1, 0x12),
		event(7, 2, api.EvFetch, 2, 0xdb), event(11, 3, api.EvRead, 3, 0xfe), event(15, 4, api.EvIn, 0x12fe, 0x41),
		event(18, 5, api.EvFetch, 4, 0xd3), event(22, 6, api.EvRead, 5, 1), event(26, 7, api.EvOut, 0x4101, 0x41),
		event(29, 8, api.EvFetch, 6, 0xdb), event(33, 9, api.EvRead, 7, 0xff), event(37, 10, api.EvIn, 0x41ff, 0x82),
		event(40, 11, api.EvFetch, 8, 0x47), event(44, 12, api.EvFetch, 9, 0), event(48, 13, api.EvFetch, 10, 0),
	}
	if !slices.Equal(l, want) {
		t.Errorf("Run() = %+v", l)
	}
}

// P18.2: without a function 255 comes in. DOC.md, T7: one that panics tells nothing.
func TestRunWithoutIn(t *testing.T) {
	for _, in := range []func(uint16, int64) byte{nil, func(uint16, int64) byte { panic("no port") }} {
		c := made(t, setup(0xdb, 0xfe))
		l := c.Run(9, in)
		if len(l) != 3 || l[2] != event(8, 2, api.EvIn, 0xfffe, 255) || c.Regs().A != 255 {
			t.Errorf("Run() = %+v", l)
		}
	}
}

// P18.2, rule 3: a Run's events are new memory.
func TestRunIsNewMemory(t *testing.T) {
	c := made(t, setup())
	one := c.Run(40, nil)
	copied := slices.Clone(one)
	two := c.Run(80, nil)
	clear(two[:cap(two)])
	if !slices.Equal(one, copied) {
		t.Error("two Runs share their events")
	}
}
