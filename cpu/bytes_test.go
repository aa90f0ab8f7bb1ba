package cpu_test

import (
	"bytes"
	"math"
	"slices"
	"testing"

	"pendulum/api"
	"pendulum/bank"
	"pendulum/cpu"
	"pendulum/octet"
	"pendulum/regs"
	"pendulum/tstate"
)

// parts is what a processor's bytes tell, in their order; memory is in blocks.
type parts struct {
	screen, regsBytes []byte
	slow              uint64
	regs              api.Regs // counts, if there are no regsBytes
	memory            [][]byte
	clock, seq        int64
	interrupt         uint64
	got               []byte
}

func (p parts) bytes() []byte {
	if p.regsBytes == nil {
		p.regsBytes, _ = regs.Bytes(p.regs)
	}
	b, _ := octet.Block(nil, p.screen)
	b = octet.Number(b, p.slow)
	b, _ = octet.Block(b, p.regsBytes)
	b = octet.Number(b, uint64(len(p.memory)))
	for _, m := range p.memory {
		b, _ = octet.Block(b, m)
	}
	b = octet.Number(b, uint64(p.clock))
	b = octet.Number(b, uint64(p.seq))
	b = octet.Number(b, p.interrupt)
	b, _ = octet.Block(b, p.got)
	return b
}

// partsOf reads the bytes of a processor, without looking whether it may be.
func partsOf(t testing.TB, c *cpu.Cpu) (p parts) {
	t.Helper()
	r := octet.New(c.Bytes())
	p.screen, p.slow = r.Block(), r.Number()
	var e api.Errno
	if p.regs, e = regs.Read(r.Block()); e != api.OK {
		t.Fatalf("its registers: error %d", e)
	}
	for range r.Number() {
		p.memory = append(p.memory, r.Block())
	}
	p.clock, p.seq, p.interrupt, p.got = int64(r.Number()), int64(r.Number()), r.Number(), r.Block()
	if e := r.End(); e != api.OK {
		t.Fatalf("its bytes: error %d", e)
	}
	return p
}

// told answers a processor's bytes, some parts changed.
func told(t testing.TB, c *cpu.Cpu, change func(p *parts)) []byte {
	t.Helper()
	p := partsOf(t, c)
	change(&p)
	return p.bytes()
}

// P18.3
func TestBytes(t *testing.T) {
	s := with(func(s *api.CpuSetup) {
		s.Screen, s.Slow = small, 0xfa
		s.Regs.IFF1, s.Regs.IM, s.Regs.PC, s.Regs.Late = true, 1, 0x8000, true
		s.Patches = []api.Patch{{Bank: 2, Bytes: []byte{0, 0x21, 0x34}}, {Bank: 7, At: 300, Bytes: []byte{9}}}
	})
	c := made(t, s)
	do(t, c, 1, 0)
	behind := s.Regs
	behind.PC, behind.R, behind.Late = 0x8001, 1, false
	registers, _ := regs.Bytes(behind)
	screen := []byte{7, 10, 32, 1, 8, 1, 4, 5, 0xf8, 0xfa, 32}
	memory := []byte{1, 14, 0, 0, 2, 2, 1, 2, 0x21, 0x34, 7, 0xf9, 0x2c, 1, 1, 9}
	if b, want := c.Bytes(), slices.Concat(screen, registers, memory, []byte{4, 1, 1, 0}); !bytes.Equal(b, want) {
		t.Errorf("Bytes() = % x, want % x", b, want)
	}
	do(t, c, 2, 0)
	memory = []byte{1, 20, 0, 0, 3, 0, 0xf9, 0xfe, 0x3f, 1, 0x80, 2, 1, 2, 0x21, 0x34, 7, 0xf9, 0x2c, 1, 1, 9}
	if b, want := c.Bytes(), slices.Concat(screen, registers, memory, []byte{14, 3, 1, 2, 255, 0}); !bytes.Equal(b, want) {
		t.Errorf("Bytes() = % x, want % x", b, want)
	}
}

// P18.3: the memory is one block, whatever stands in it.
func TestBytesOfAFullMemory(t *testing.T) {
	var l []api.Patch
	for number := range 12 {
		l = append(l, api.Patch{Bank: number, Bytes: bytes.Repeat([]byte{1, 0}, 8192)})
	}
	c := made(t, with(func(s *api.CpuSetup) { s.Patches = l }))
	m, _ := bank.New(l)
	p := partsOf(t, c)
	if len(p.memory) != 1 || !bytes.Equal(p.memory[0], m.Bytes()) || len(p.memory[0]) > api.MaxBlock {
		t.Errorf("%d blocks", len(p.memory))
	}
	if r, e := cpu.Read(c.Bytes()); e != api.OK || !bytes.Equal(r.Bytes(), c.Bytes()) {
		t.Errorf("Read: error %d", e)
	}
}

// P18.3, rule 3
func TestBytesAreNewMemory(t *testing.T) {
	c := made(t, setup(0x21, 5))
	do(t, c, 2, 0)
	one := c.Bytes()
	copied := bytes.Clone(one)
	r, e := cpu.Read(one)
	if e != api.OK || !bytes.Equal(one, copied) {
		t.Fatalf("Read: error %d, the bytes are % x", e, one)
	}
	clear(one[:cap(one)])
	if !bytes.Equal(c.Bytes(), copied) || !bytes.Equal(r.Bytes(), copied) {
		t.Error("a processor is of its bytes' memory")
	}
	do(t, r, 5, 0)
	if !bytes.Equal(c.Bytes(), copied) {
		t.Error("two processors share something")
	}
}

// P18.3: a processor that is read is as it was.
func TestReadOfBytes(t *testing.T) {
	s := with(func(s *api.CpuSetup) { s.Slow, s.Screen = 0x2a, small },
		0x01, 0xfd, 0x7f, 0x3e, 0x1f, 0xed, 0x79, 0x32, 1, 0xc0)
	c := made(t, s)
	do(t, c, 11, 0)
	r, e := cpu.Read(c.Bytes())
	if e != api.OK {
		t.Fatalf("Read: error %d", e)
	}
	if r.Clock() != c.Clock() || r.Seq() != c.Seq() || r.Regs() != c.Regs() || r.Page() != (api.Page{A: 0x1f}) {
		t.Errorf("it is at %d, Seq %d, page %02x, %+v", r.Clock(), r.Seq(), r.Page(), r.Regs())
	}
	is, got := c.Row()
	checkRow(t, r, is, got...)
	q, when, _ := c.Next()
	if again, at, ok := r.Next(); again != q || at != when || !ok {
		t.Errorf("Next() = %+v, %d, %t", again, at, ok)
	}
	for n := range 12 {
		if r.In(n, 0) != c.In(n, 0) {
			t.Errorf("In(%d, 0) = %d", n, r.In(n, 0))
		}
	}
}

// P18.3: what is at an edge may be.
func TestReadOfEdges(t *testing.T) {
	c := made(t, setup(0x21, 5, 6))
	do(t, c, 2, 0)
	for name, change := range map[string]func(p *parts){
		"time 0":         func(p *parts) { p.clock = 0 },
		"the last time":  func(p *parts) { p.clock = api.MaxTime },
		"no events":      func(p *parts) { p.seq = 0 },
		"the last Seq":   func(p *parts) { p.seq = api.MaxSeq },
		"all slow":       func(p *parts) { p.slow = 255 },
		"another row":    func(p *parts) { p.got = nil },
		"other bytes":    func(p *parts) { p.got = []byte{0x36, 9} },
		"ten requests":   func(p *parts) { p.got = []byte{0xdd, 0xcb, 1, 6, 0, 0, 0} },
		"an interrupt":   func(p *parts) { p.interrupt, p.got = 1, []byte{0, 0} },
		"a second read":  func(p *parts) { p.interrupt, p.got, p.regs.IM = 1, []byte{7, 0, 0, 1}, 2 },
		"another screen": func(p *parts) { p.screen, _ = tstate.Bytes(least) },
		"while it halts": func(p *parts) { p.regs.Halt, p.got = true, nil },
		"a prefix":       func(p *parts) { p.got = []byte{0xdd} },
	} {
		b := told(t, c, change)
		r, e := cpu.Read(b)
		if e != api.OK || !bytes.Equal(r.Bytes(), b) {
			t.Errorf("%s: Read: error %d", name, e)
		}
	}
}

// P18.3: what is no processor's bytes.
func TestReadRefuses(t *testing.T) {
	c := made(t, setup(0x21, 5, 6, 0xdd, 0xfd, 0x76))
	do(t, c, 2, 0)
	for name, change := range map[string]func(p *parts){
		"a time too late":         func(p *parts) { p.clock = api.MaxTime + 1 },
		"a time beyond all":       func(p *parts) { p.clock = math.MaxInt64 },
		"a time below 0":          func(p *parts) { p.clock = -1 },
		"a Seq too great":         func(p *parts) { p.seq = api.MaxSeq + 1 },
		"a Seq beyond all":        func(p *parts) { p.seq = math.MinInt64 },
		"a Seq below 0":           func(p *parts) { p.seq = -1 },
		"nine bits of slow banks": func(p *parts) { p.slow = 256 },
		"half an interrupt":       func(p *parts) { p.interrupt = 2 },
		"a row that is over":      func(p *parts) { p.got = []byte{0x21, 5, 6} },
		"a row too long":          func(p *parts) { p.got = []byte{0x21, 5, 6, 0} },
		"a very long row":         func(p *parts) { p.got = make([]byte, api.MaxBlock) },
		"halting, a row over":     func(p *parts) { p.regs.Halt, p.got = true, []byte{0x76} },
		"an interrupt over":       func(p *parts) { p.interrupt, p.got = 1, []byte{255, 0, 0} },
		"an interrupt too long":   func(p *parts) { p.interrupt, p.got = 1, []byte{255, 0, 0, 0} },
		"another interrupt over":  func(p *parts) { p.interrupt, p.got, p.regs.IM = 1, []byte{255, 0, 0, 1, 2}, 2 },
		"a lone prefix":           func(p *parts) { p.regs.PC, p.got = 3, []byte{0xdd} },
		"a screen that isn't":     func(p *parts) { p.screen[2] = 230 },
		"half a screen":           func(p *parts) { p.screen = p.screen[:3] },
		"no screen":               func(p *parts) { p.screen = nil },
		"registers turned":        func(p *parts) { p.regsBytes, _ = regs.Bytes(p.regs); p.regsBytes[3] ^= 1 },
		"too few registers":       func(p *parts) { p.regsBytes, _ = regs.Bytes(p.regs); p.regsBytes = p.regsBytes[1:] },
		"no memory":               func(p *parts) { p.memory = nil },
		"an empty memory":         func(p *parts) { p.memory = [][]byte{nil} },
		"a memory that isn't":     func(p *parts) { p.memory[0][2]++ },
		"a memory in two":         func(p *parts) { p.memory = [][]byte{p.memory[0][:3], p.memory[0][3:]} },
		"nothing behind a memory": func(p *parts) { p.memory = append(p.memory, nil) },
		"nothing ahead of one":    func(p *parts) { p.memory = append([][]byte{nil}, p.memory...) },
		"two memories":            func(p *parts) { p.memory = append(p.memory, p.memory[0]) },
	} {
		checkRefused(t, name, told(t, c, change))
	}
	if _, e := cpu.Read(told(t, c, func(*parts) {})); e != api.OK {
		t.Errorf("unchanged: error %d", e)
	}
}

func checkRefused(t *testing.T, name string, b []byte) {
	t.Helper()
	if r, e := cpu.Read(b); r != nil || e != api.ErrBad {
		t.Errorf("%s: Read: error %d", name, e)
	}
}

// P18.3: bytes that are missing, or left, or in another way.
func TestReadRefusesOtherBytes(t *testing.T) {
	c := made(t, setup(0x21, 5, 6))
	do(t, c, 2, 0)
	b := c.Bytes()
	for n := range b {
		checkRefused(t, "too few", b[:n])
	}
	checkRefused(t, "none", nil)
	checkRefused(t, "one more", append(bytes.Clone(b), 0))
	checkRefused(t, "twice", append(bytes.Clone(b), b...))
	// The length of the first block in two bytes.
	checkRefused(t, "a number in another way", append([]byte{0xf8}, b...))
	// As many blocks as there can't be.
	p := partsOf(t, c)
	p.memory = nil
	short := p.bytes()
	at := bytes.LastIndexByte(short[:len(short)-6], 0)
	checkRefused(t, "blocks beyond all", append(octet.Number(short[:at:at], math.MaxUint64), short[at+1:]...))
}

// P18.3: whatever is read is told so again.
func TestReadOfTurnedBytes(t *testing.T) {
	c := made(t, with(func(s *api.CpuSetup) { s.Screen, s.Slow = small, 0xaa }, 0x21, 5, 6))
	do(t, c, 2, 0)
	b := c.Bytes()
	for at := range b {
		for bit := range 8 {
			turned := bytes.Clone(b)
			turned[at] ^= 1 << bit
			checkRead(t, turned)
		}
	}
}

// checkRead looks whether bytes are no processor's, or told so again, and whether
// that one goes on.
func checkRead(t *testing.T, b []byte) {
	t.Helper()
	c, e := cpu.Read(b)
	if e != api.OK {
		if c != nil || e != api.ErrBad {
			t.Fatalf("Read(% x): error %d", b, e)
		}
		return
	}
	if !bytes.Equal(c.Bytes(), b) {
		t.Fatalf("% x is told as % x", b, c.Bytes())
	}
	from, ahead := c.Clock(), c.Seq()
	l := c.Run(from+200, func(port uint16, at int64) byte { return byte(port) ^ byte(at) })
	for n, x := range l {
		if x.Seq != ahead+int64(n) || x.Time < from || n > 0 && x.Time <= l[n-1].Time {
			t.Fatalf("% x goes on by %+v", b, l)
		}
	}
}

func FuzzRead(f *testing.F) {
	for _, s := range []api.CpuSetup{setup(0x21, 5), ready(2, 0xed, 0xb0), with(func(s *api.CpuSetup) { s.Screen, s.Slow = full, 255 }, 0xdd, 0xcb, 1, 6)} {
		c := made(f, s)
		for range 4 {
			f.Add(c.Bytes())
			do(f, c, 1, 3)
		}
	}
	f.Fuzz(checkRead)
}
