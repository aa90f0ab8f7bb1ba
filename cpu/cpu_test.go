package cpu_test

import (
	"math"
	"testing"

	"pendulum/api"
	"pendulum/cpu"
	"pendulum/regs"
)

var classic = api.Screen{Lines: 311, Columns: 228, Top: 63, Rows: 192, Left: 14, Wide: 32, Pulse: 36}

// bare has a picture without bytes, blank one without lines; small, full and odd
// have short frames, so that there are many waits and interrupts.
var (
	small = api.Screen{Lines: 10, Columns: 32, Top: 1, Rows: 8, Left: 1, Wide: 4, Pulse: 5}
	least = api.Screen{Lines: 1, Columns: 8, Left: 1, Pulse: 8}
	bare  = api.Screen{Lines: 20, Columns: 40, Top: 2, Rows: 16, Left: 8, Pulse: 1}
	blank = api.Screen{Lines: 20, Columns: 40, Top: 20, Left: 8, Wide: 8, Pulse: 1}
	full  = api.Screen{Lines: 8, Columns: 12, Rows: 8, Left: 4, Wide: 2, Pulse: 64}
	odd   = api.Screen{Lines: 9, Columns: 44, Rows: 8, Left: 11, Wide: 8, Pulse: 9}
)

var screens = []api.Screen{classic, small, least, bare, blank, full, odd}

// setup answers one of the classic screen, with these bytes where PC is.
func setup(code ...byte) api.CpuSetup {
	return api.CpuSetup{Screen: classic, Regs: regs.Reset(), Patches: []api.Patch{{Bank: 8, Bytes: code}}}
}

// with answers a setup with code, changed.
func with(change func(s *api.CpuSetup), code ...byte) api.CpuSetup {
	s := setup(code...)
	change(&s)
	return s
}

func made(t testing.TB, s api.CpuSetup) *cpu.Cpu {
	t.Helper()
	c, e := cpu.New(s)
	if e != api.OK || c == nil {
		t.Fatalf("New: error %d", e)
	}
	return c
}

// do does so many requests, in coming back of each port, and answers the last deed.
func do(t testing.TB, c *cpu.Cpu, count int, in byte) (d api.Deed) {
	t.Helper()
	for range count {
		var e api.Errno
		if d, e = c.Do(in); e != api.OK {
			t.Fatalf("Do: error %d", e)
		}
	}
	return d
}

func event(at, seq int64, kind, a, b int) api.Event {
	return api.Event{Time: at, Chip: api.ChipCpu, Seq: seq, Kind: kind, A: a, B: b}
}

// P18.1, P18.2, P18.3: the chapter's examples.
func TestExamples(t *testing.T) {
	c := made(t, setup(0x3e, 0x05, 0xd3, 0xfe))
	if q, at, ok := c.Next(); q != (api.Req{Kind: api.ReqFetch, T: 4}) || at != 0 || !ok {
		t.Errorf("Next() = %+v, %d, %t", q, at, ok)
	}
	for _, x := range []struct {
		want  api.Event
		clock int64
	}{
		{event(0, 0, api.EvFetch, 0, 62), 4},
		{event(4, 1, api.EvRead, 1, 5), 7},
		{event(7, 2, api.EvFetch, 2, 211), 11},
		{event(11, 3, api.EvRead, 3, 254), 14},
		{event(15, 4, api.EvOut, 1534, 5), 18},
	} {
		if d, e := c.Do(0); e != api.OK || d != (api.Deed{Event: x.want, Is: true}) {
			t.Errorf("Do() = %+v, error %d, want %+v", d, e, x.want)
		}
		if c.Clock() != x.clock || c.Seq() != x.want.Seq+1 {
			t.Errorf("behind %+v: Clock() = %d, Seq() = %d", x.want, c.Clock(), c.Seq())
		}
	}
}

var (
	badScreen = func(s *api.CpuSetup) { s.Screen.Columns = 230 }
	badRegs   = func(s *api.CpuSetup) { s.Regs.IM = 3 }
)

// P18.1
func TestCheckSetup(t *testing.T) {
	long := api.Patch{Bank: 3, At: 16383, Bytes: []byte{1, 2}}
	for name, s := range map[string]api.CpuSetup{
		"nothing":         {},
		"a screen":        with(badScreen),
		"registers":       with(badRegs),
		"registers below": with(func(s *api.CpuSetup) { s.Regs.IM = -1 }),
		"a bank":          with(func(s *api.CpuSetup) { s.Patches[0].Bank = 12 }),
		"a bank below":    with(func(s *api.CpuSetup) { s.Patches[0].Bank = -1 }),
		"a place":         with(func(s *api.CpuSetup) { s.Patches[0].At = math.MaxInt }),
		"a later patch":   with(func(s *api.CpuSetup) { s.Patches = append(s.Patches, long) }),
		"the first of two": with(func(s *api.CpuSetup) {
			s.Patches = []api.Patch{long, {Bank: 3, At: 0, Bytes: []byte{1, 2}}}
		}),
		"all": with(func(s *api.CpuSetup) {
			badScreen(s)
			badRegs(s)
			s.Patches = []api.Patch{long}
		}),
	} {
		if e := cpu.CheckSetup(s); e != api.ErrArg {
			t.Errorf("%s: CheckSetup: error %d", name, e)
		}
		if c, e := cpu.New(s); c != nil || e != api.ErrArg {
			t.Errorf("%s: New: error %d", name, e)
		}
	}
	for _, screen := range screens {
		for im := range 3 {
			s := with(func(s *api.CpuSetup) { s.Screen, s.Regs.IM, s.Slow, s.Patches = screen, im, 255, nil })
			if e := cpu.CheckSetup(s); e != api.OK {
				t.Errorf("CheckSetup(%+v): error %d", s, e)
			}
			made(t, s)
		}
	}
}

// P18.1, P18.3: what a processor begins with.
func TestNew(t *testing.T) {
	s := with(func(s *api.CpuSetup) {
		s.Regs.PC, s.Regs.A, s.Regs.Halt, s.Regs.Late = 0x1234, 7, true, true
		s.Patches = []api.Patch{
			{Bank: 5, At: 100, Bytes: []byte{1, 2, 3}}, {Bank: 5, At: 101, Bytes: []byte{9}}, {Bank: 11, At: 16383, Bytes: []byte{8}},
		}
	})
	c := made(t, s)
	if c.Clock() != 0 || c.Seq() != 0 || c.Page() != (api.Page{}) || c.Regs() != s.Regs {
		t.Errorf("it begins at %d, with Seq %d, %+v, %+v", c.Clock(), c.Seq(), c.Page(), c.Regs())
	}
	if interrupt, got := c.Row(); interrupt || len(got) != 0 {
		t.Errorf("Row() = %t, %v", interrupt, got)
	}
	for place, want := range map[int]byte{99: 0, 100: 1, 101: 9, 102: 3, 103: 0} {
		if c.In(5, place) != want || c.Byte(uint16(0x4000+place)) != want {
			t.Errorf("at %d of bank 5: %d, %d, want %d", place, c.In(5, place), c.Byte(uint16(0x4000+place)), want)
		}
	}
	for _, x := range []struct {
		bank, place int
		want        byte
	}{{11, 16383, 8}, {11, 16382, 0}, {12, 16383, 0}, {-1, 0, 0}, {5, -1, 0}, {5, 16384, 0}, {math.MaxInt, 100, 0}, {math.MinInt, math.MinInt, 0}} {
		if v := c.In(x.bank, x.place); v != x.want {
			t.Errorf("In(%d, %d) = %d, want %d", x.bank, x.place, v, x.want)
		}
	}
}

// P18.1, rule 3: what was handed in is neither changed nor looked at later.
func TestNewKeepsNothing(t *testing.T) {
	s := setup(0x3e, 5)
	c := made(t, s)
	s.Patches[0].Bytes[0], s.Patches[0].Bank = 0x76, 3
	if d := do(t, c, 1, 0); d.Event.B != 0x3e || s.Patches[0].Bytes[1] != 5 {
		t.Errorf("it did %+v", d)
	}
	two := made(t, setup(0x36))
	if c.Byte(0) != 0x3e || two.Byte(0) != 0x36 {
		t.Error("two processors share a memory")
	}
}

// P18.1, rule 3: a patch's spare room is neither read nor written.
func TestNewLeavesSpareRoom(t *testing.T) {
	room := []byte{1, 2, 3}
	c := made(t, setup(room[:1]...))
	if c.Byte(0) != 1 || c.Byte(1) != 0 || room[1] != 2 {
		t.Errorf("% x, of % x", c.Byte(1), room)
	}
}

// DOC.md, rule 7
func TestOneThatNobodyMade(t *testing.T) {
	for _, c := range []*cpu.Cpu{nil, {}} {
		if q, at, ok := c.Next(); q != (api.Req{}) || at != 0 || ok {
			t.Errorf("Next() = %+v, %d, %t", q, at, ok)
		}
		if d, e := c.Do(1); d != (api.Deed{}) || e != api.ErrNil {
			t.Errorf("Do() = %+v, error %d", d, e)
		}
		if l := c.Run(100, nil); len(l) != 0 {
			t.Errorf("Run() = %+v", l)
		}
		if c.Clock() != 0 || c.Seq() != 0 || c.Regs() != (api.Regs{}) || c.Page() != (api.Page{}) {
			t.Error("it has something")
		}
		if c.Byte(0) != 0 || c.In(5, 0) != 0 || len(c.Bytes()) != 0 {
			t.Error("it has bytes")
		}
		if interrupt, got := c.Row(); interrupt || len(got) != 0 {
			t.Errorf("Row() = %t, %v", interrupt, got)
		}
	}
}
