package length_test

import (
	"slices"
	"testing"

	"pendulum/api"
	"pendulum/decode"
	"pendulum/length"
	"pendulum/regs"
)

func made(t *testing.T, r api.Regs, at uint16, b ...byte) *length.Flat {
	t.Helper()
	f, err := length.New(r, at, b)
	if err != api.OK || f == nil {
		t.Fatalf("New(%+v, %04x, % x): error %d", r, at, b, err)
	}
	return f
}

func fetch(at uint16) api.Req         { return api.Req{Kind: api.ReqFetch, Addr: at, T: 4} }
func read(at uint16) api.Req          { return api.Req{Kind: api.ReqRead, Addr: at, T: 3} }
func write(at uint16, v byte) api.Req { return api.Req{Kind: api.ReqWrite, Addr: at, Value: v, T: 3} }
func in(port uint16) api.Req          { return api.Req{Kind: api.ReqIn, Addr: port, T: 4} }
func out(port uint16, v byte) api.Req { return api.Req{Kind: api.ReqOut, Addr: port, Value: v, T: 4} }
func idle(count int) api.Req          { return api.Req{Kind: api.ReqIdle, T: count} }
func acknowledge(at uint16) api.Req   { return api.Req{Kind: api.ReqAck, Addr: at, T: 7} }
func reset(with func(*api.Regs)) (r api.Regs) {
	r = regs.Reset()
	with(&r)
	return r
}

// steps does an instruction, and looks at its requests.
func steps(t *testing.T, f *length.Flat, want ...api.Req) {
	t.Helper()
	if l, err := f.Step(); err != api.OK || !slices.Equal(l, want) {
		t.Errorf("Step() = %+v, error %d, want %+v", l, err, want)
	}
}

// accepts asks for an interrupt, and looks at its requests.
func accepts(t *testing.T, f *length.Flat, v byte, want ...api.Req) {
	t.Helper()
	if l, err := f.Interrupt(v); err != api.OK || !slices.Equal(l, want) {
		t.Errorf("Interrupt(%d) = %+v, error %d, want %+v", v, l, err, want)
	}
}

func has(t *testing.T, f *length.Flat, want api.Regs) {
	t.Helper()
	if r := f.Regs(); r != want {
		t.Errorf("Regs() = %+v, want %+v", r, want)
	}
}

// stands looks at all of a memory: all else is 0.
func stands(t *testing.T, f *length.Flat, want map[uint16]byte) {
	t.Helper()
	for at := range 1 << 16 {
		if v := f.Byte(uint16(at)); v != want[uint16(at)] {
			t.Errorf("Byte(%04x) = %02x, want %02x", at, v, want[uint16(at)])
			return
		}
	}
}

// P12.2
func TestNew(t *testing.T) {
	r := reset(func(r *api.Regs) { r.IM, r.PC, r.Halt, r.HL2 = 2, 0xfffe, true, 77 })
	f := made(t, r, 0xfffe, 1, 2, 3, 4)
	has(t, f, r)
	stands(t, f, map[uint16]byte{0xfffe: 1, 0xffff: 2, 0: 3, 1: 4})
	stands(t, made(t, r, 0x1234), nil)
	if f, err := length.New(r, 0xffff, nil); err != api.OK || f == nil {
		t.Errorf("New of no bytes: error %d", err)
	}
	stands(t, made(t, api.Regs{}, 0, 9), map[uint16]byte{0: 9})
	stands(t, made(t, api.Regs{}, 0xffff, 9), map[uint16]byte{0xffff: 9})
}

// P12.2: a whole memory, and one byte more.
func TestNewOfAll(t *testing.T) {
	b := make([]byte, 1<<16+1)
	for n := range b {
		b[n] = byte(n*7 + n>>8)
	}
	for _, at := range []uint16{0, 1, 0x8000, 0xffff} {
		f := made(t, regs.Reset(), at, b[:1<<16]...)
		for n := range 1 << 16 {
			if v := f.Byte(at + uint16(n)); v != b[n] {
				t.Fatalf("Byte(%04x) = %02x, want %02x", at+uint16(n), v, b[n])
			}
		}
		if f, err := length.New(regs.Reset(), at, b); err != api.ErrArg || f != nil {
			t.Errorf("New of %d bytes: %t, error %d", len(b), f != nil, err)
		}
	}
}

// P12.2
func TestNewOfWhatMayNotBe(t *testing.T) {
	for _, mode := range []int{-1, 3, 1 << 40, -1 << 63} {
		if f, err := length.New(api.Regs{IM: mode}, 0, []byte{1}); err != api.ErrArg || f != nil {
			t.Errorf("New of mode %d: %t, error %d", mode, f != nil, err)
		}
	}
}

// P12.2: what was handed in is neither kept nor changed.
func TestNewKeepsNothing(t *testing.T) {
	whole := []byte{0x3c, 0x77, 0xaa, 0xbb}
	r := reset(func(r *api.Regs) { r.H = 0; r.L = 0 })
	f := made(t, r, 0, whole[:2]...)
	g, err := length.New(r, 0, whole[:2])
	if err != api.OK {
		t.Fatal(err)
	}
	steps(t, g, fetch(0))
	steps(t, g, fetch(1), write(0, 0))
	if !slices.Equal(whole, []byte{0x3c, 0x77, 0xaa, 0xbb}) {
		t.Errorf("New's bytes are % x", whole)
	}
	whole[0] = 0x55
	stands(t, f, map[uint16]byte{0: 0x3c, 1: 0x77})
	stands(t, g, map[uint16]byte{1: 0x77})
}

// P12.2: one that nobody made.
func TestNobodyMade(t *testing.T) {
	for _, f := range []*length.Flat{nil, {}, new(length.Flat)} {
		if l, err := f.Step(); err != api.ErrNil || len(l) != 0 {
			t.Errorf("Step() = %v, error %d", l, err)
		}
		if l, err := f.Interrupt(255); err != api.ErrNil || len(l) != 0 {
			t.Errorf("Interrupt() = %v, error %d", l, err)
		}
		if err := f.Poke(7, 9); err != api.ErrNil {
			t.Errorf("Poke(): error %d", err)
		}
		if i, err := f.Ins(); err != api.ErrNil || i != (api.Ins{}) {
			t.Errorf("Ins() = %+v, error %d", i, err)
		}
		has(t, f, api.Regs{})
		stands(t, f, nil)
	}
}

// P12.2
func TestPokeAndByte(t *testing.T) {
	f := made(t, regs.Reset(), 10, 1, 2, 3)
	for at, v := range map[uint16]byte{0: 5, 11: 0, 0xffff: 0xff} {
		if err := f.Poke(at, v); err != api.OK {
			t.Errorf("Poke(%d, %d): error %d", at, v, err)
		}
	}
	stands(t, f, map[uint16]byte{0: 5, 10: 1, 12: 3, 0xffff: 0xff})
	has(t, f, regs.Reset())
}

// P12.2: what is poked is what is done next.
func TestStepOfWhatWasPoked(t *testing.T) {
	f := made(t, regs.Reset(), 0, 0, 0x3e, 7)
	steps(t, f, fetch(0))
	f.Poke(1, 0x06)
	f.Poke(2, 0x15)
	steps(t, f, fetch(1), read(2))
	has(t, f, reset(func(r *api.Regs) { r.B, r.PC, r.R = 0x15, 3, 2 }))
}

// P12.2: requests and registers of instructions, one behind the other.
func TestStep(t *testing.T) {
	f := made(t, reset(func(r *api.Regs) { r.A, r.SP, r.PC = 0x12, 1, 0xffff }), 0xffff, 0xdb, 0x34, 0xed, 0x79, 0xe5, 0xcd, 0x00, 0x80)
	steps(t, f, fetch(0xffff), read(0), in(0x1234))
	steps(t, f, fetch(1), fetch(2), out(0, 0x26))
	steps(t, f, fetch(3), idle(1), write(0, 0), write(0xffff, 0))
	steps(t, f, fetch(4), read(5), read(6), idle(1), write(0xfffe, 0), write(0xfffd, 7))
	has(t, f, reset(func(r *api.Regs) { r.A, r.SP, r.PC, r.WZ, r.R = 0x26, 0xfffd, 0x8000, 0x8000, 5 }))
	stands(t, f, map[uint16]byte{1: 0xed, 2: 0x79, 3: 0xe5, 4: 0xcd, 6: 0x80, 0xfffd: 7})
}

// P12.2: a port answers the low byte of its address, exclusive or its high one.
func TestPorts(t *testing.T) {
	for _, x := range []struct {
		b, c, v byte
	}{{0, 0, 0}, {0x12, 0x34, 0x26}, {0xff, 0xff, 0}, {0xff, 0, 0xff}, {0, 0xff, 0xff}, {0x80, 0x01, 0x81}, {0x7f, 0xfe, 0x81}} {
		f := made(t, reset(func(r *api.Regs) { r.B, r.C = x.b, x.c }), 0, 0xed, 0x50)
		steps(t, f, fetch(0), fetch(1), in(uint16(x.b)<<8|uint16(x.c)))
		if r := f.Regs(); r.D != x.v {
			t.Errorf("the port %02x%02x answers %02x, want %02x", x.b, x.c, r.D, x.v)
		}
	}
}

// P12.2: an instruction that writes over itself goes on with what came back,
// and the next one is what stands there then.
func TestStepOverItself(t *testing.T) {
	f := made(t, reset(func(r *api.Regs) { r.PC, r.H, r.D, r.C = 0x9000, 0x80, 0x90, 2 }), 0x9000, 0xed, 0xb0)
	f.Poke(0x8000, 0x3e)
	f.Poke(0x8001, 0x99)
	steps(t, f, fetch(0x9000), fetch(0x9001), read(0x8000), write(0x9000, 0x3e), idle(2), idle(5))
	if i, err := f.Ins(); err != api.OK || i != (api.Ins{Op: 0x3e, Imm: 0xb0, Len: 2}) {
		t.Errorf("Ins() = %+v, error %d", i, err)
	}
	steps(t, f, fetch(0x9000), read(0x9001))
	if r := f.Regs(); r.A != 0xb0 || r.PC != 0x9002 || r.C != 1 {
		t.Errorf("Regs() = %+v", r)
	}
}

// P12.2: what is read behind a write to the same place is what was written.
func TestReadBehindWrite(t *testing.T) {
	// LD (16),A; LD HL,(15); EX (SP),HL
	f := made(t, reset(func(r *api.Regs) { r.A, r.SP = 0xa5, 15 }), 0, 0x32, 16, 0, 0x2a, 15, 0, 0xe3)
	f.Poke(15, 3)
	steps(t, f, fetch(0), read(1), read(2), write(16, 0xa5))
	steps(t, f, fetch(3), read(4), read(5), read(15), read(16))
	f.Poke(15, 9)
	steps(t, f, fetch(6), read(15), read(16), idle(1), write(16, 0xa5), write(15, 3), idle(2))
	if r := f.Regs(); r.H != 0xa5 || r.L != 9 || f.Byte(15) != 3 || f.Byte(16) != 0xa5 {
		t.Errorf("Regs() = %+v, at 15 % x", r, []byte{f.Byte(15), f.Byte(16)})
	}
}

// P12.2: the byte behind dd or fd is looked at, beyond the end that at 0.
func TestLonePrefixes(t *testing.T) {
	for _, first := range []byte{0xdd, 0xfd} {
		for second := range 256 {
			b := []byte{first, byte(second), 0, 0, 0, 0}
			f := made(t, reset(func(r *api.Regs) { r.PC, r.IFF1 = 0xffff, true }), 0xffff, b...)
			l, err := f.Step()
			alone := second == 0xdd || second == 0xed || second == 0xfd
			if err != api.OK || l[0] != fetch(0xffff) || alone != (len(l) == 1) || !alone && l[1] != fetch(0) {
				t.Errorf("Step() of % x = %+v, error %d", b, l, err)
			}
			if r := f.Regs(); alone && (r.PC != 0 || !r.Late) {
				t.Errorf("Regs() behind % x = %+v", b, r)
			}
			if alone {
				accepts(t, f, 255)
			}
		}
	}
}

// P12.2: while it halts it fetches, and nothing else; an interrupt ends that.
func TestHalt(t *testing.T) {
	f := made(t, reset(func(r *api.Regs) { r.IFF1, r.IFF2, r.IM, r.SP = true, true, 1, 0 }), 0, 0x76, 0x3c)
	steps(t, f, fetch(0))
	for range 3 {
		steps(t, f, fetch(1))
	}
	has(t, f, reset(func(r *api.Regs) { r.PC, r.IFF1, r.IFF2, r.IM, r.SP, r.Halt, r.R = 1, true, true, 1, 0, true, 4 }))
	accepts(t, f, 255, acknowledge(1), write(0xffff, 0), write(0xfffe, 1))
	has(t, f, reset(func(r *api.Regs) { r.PC, r.WZ, r.IM, r.SP, r.R = 56, 56, 1, 0xfffe, 5 }))
	stands(t, f, map[uint16]byte{0: 0x76, 1: 0x3c, 0xfffe: 1})
	accepts(t, f, 255)
	steps(t, f, fetch(56))
}

// P12.2: an interrupt by each mode.
func TestInterrupt(t *testing.T) {
	for _, x := range []struct {
		mode int
		v    byte
		more []api.Req
		to   uint16
	}{
		{0, 0xc7, nil, 0},
		{0, 0xff, nil, 56},
		{0, 0xef, nil, 40},
		{1, 0, nil, 56},
		{2, 0xff, []api.Req{read(0x40ff), read(0x4100)}, 0x5678},
		{2, 0xfd, []api.Req{read(0x40fd), read(0x40fe)}, 0},
	} {
		f := made(t, reset(func(r *api.Regs) { r.IFF1, r.IFF2, r.IM, r.I, r.PC, r.SP = true, true, x.mode, 0x40, 0x1234, 0x9000 }), 0x40ff, 0x78, 0x56)
		ahead := f.Regs()
		accepts(t, f, x.v, append([]api.Req{acknowledge(0x1234), write(0x8fff, 0x12), write(0x8ffe, 0x34)}, x.more...)...)
		ahead.IFF1, ahead.IFF2, ahead.PC, ahead.WZ, ahead.SP, ahead.R = false, false, x.to, x.to, 0x8ffe, 1
		has(t, f, ahead)
		stands(t, f, map[uint16]byte{0x40ff: 0x78, 0x4100: 0x56, 0x8fff: 0x12, 0x8ffe: 0x34})
	}
}

// P12.2: an interrupt that may not be changes nothing; behind EI none may be.
func TestNoInterrupt(t *testing.T) {
	for _, r := range []api.Regs{regs.Reset(), {IFF2: true}, {IFF1: true, Late: true}, {Halt: true}} {
		f := made(t, r, 0, 0x3c)
		accepts(t, f, 255)
		has(t, f, r)
		stands(t, f, map[uint16]byte{0: 0x3c})
	}
	f := made(t, regs.Reset(), 0, 0xfb)
	steps(t, f, fetch(0))
	accepts(t, f, 255)
	steps(t, f, fetch(1))
	accepts(t, f, 255, acknowledge(2), write(0xfffe, 0), write(0xfffd, 2))
}

// P12.2: the instruction at PC, beyond the end from 0 on, whether it halts or not.
func TestIns(t *testing.T) {
	for _, x := range []struct {
		at uint16
		b  []byte
		i  api.Ins
	}{
		{0, nil, api.Ins{Len: 1}},
		{0x1234, []byte{0xdd, 0x36, 0xfe, 7}, api.Ins{Op: 0x36, Index: 1, Disp: -2, Imm: 7, Len: 4}},
		{0xffff, []byte{0xdd, 0x36, 0xfe, 7}, api.Ins{Op: 0x36, Index: 1, Disp: -2, Imm: 7, Len: 4}},
		{0xfffe, []byte{0xfd, 0xcb, 3, 0x46}, api.Ins{Set: api.SetBoth, Op: 0x46, Index: 2, Disp: 3, Len: 4}},
		{0xfffd, []byte{0xed, 0x43, 1, 2}, api.Ins{Set: api.SetMore, Op: 0x43, Imm: 513, Len: 4}},
		{0xffff, []byte{0xdd, 0xed}, api.Ins{Op: 0xdd, Len: 1}},
		{0xffff, []byte{0xfd, 0xdd}, api.Ins{Op: 0xfd, Len: 1}},
		{0xffff, []byte{0xdd, 0x00}, api.Ins{Index: 1, Len: 2}},
		{7, []byte{0x18, 0x80, 0xff}, api.Ins{Op: 0x18, Imm: -128, Len: 2}},
	} {
		for _, halts := range []bool{false, true} {
			r := reset(func(r *api.Regs) { r.PC, r.Halt = x.at, halts })
			f := made(t, r, x.at, x.b...)
			if i, err := f.Ins(); err != api.OK || i != x.i || decode.Check(i) != api.OK {
				t.Errorf("Ins() of % x = %+v, error %d, want %+v", x.b, i, err, x.i)
			}
			has(t, f, r)
		}
	}
}

// P12.2: what a machine answered is nobody else's, and machines share nothing.
func TestMachinesShareNothing(t *testing.T) {
	f := made(t, regs.Reset(), 0, 0x3e, 5, 0x3c, 0x77)
	g := made(t, regs.Reset(), 0, 0x3e, 5, 0x3c, 0x77)
	l, _ := f.Step()
	for n := range l[:cap(l)] {
		l[:cap(l)][n] = api.Req{Kind: 99}
	}
	steps(t, g, fetch(0), read(1))
	steps(t, f, fetch(2))
	steps(t, f, fetch(3), write(0, 6))
	r := f.Regs()
	r.A = 77
	if f.Byte(0) != 6 || g.Byte(0) != 0x3e || f.Regs().A != 6 || g.Regs().A != 5 {
		t.Errorf("%02x %02x, %+v, %+v", f.Byte(0), g.Byte(0), f.Regs(), g.Regs())
	}
}
