package ula_test

import (
	"bytes"
	"math"
	"slices"
	"testing"

	"pendulum/api"
	"pendulum/keys"
	"pendulum/octet"
	"pendulum/tstate"
	"pendulum/ula"
)

// The places of the numbers behind the blocks.
const (
	shadowAt = iota
	borderAt
	bitsAt
	toldAt
	floatsAt
	clockAt
	seqAt
	countAt
)

// parts is what a chip's bytes tell, in their order.
type parts struct {
	screen, touches, five, seven []byte
	numbers                      [countAt]uint64
}

func (p parts) bytes() []byte {
	var b []byte
	for _, l := range [][]byte{p.screen, p.touches, p.five, p.seven} {
		b, _ = octet.Block(b, l)
	}
	for _, n := range p.numbers {
		b = octet.Number(b, n)
	}
	return b
}

// partsOf reads the bytes of a chip, without looking whether it may be.
func partsOf(t testing.TB, u *ula.Ula) (p parts) {
	t.Helper()
	r := octet.New(u.Bytes())
	p.screen, p.touches, p.five, p.seven = r.Block(), r.Block(), r.Block(), r.Block()
	for n := range p.numbers {
		p.numbers[n] = r.Number()
	}
	if e := r.End(); e != api.OK {
		t.Fatalf("its bytes: error %d", e)
	}
	return p
}

// told answers a chip's bytes, some parts changed.
func told(t testing.TB, u *ula.Ula, change func(p *parts)) []byte {
	t.Helper()
	p := partsOf(t, u)
	change(&p)
	return p.bytes()
}

func touchBytes(t testing.TB, l []api.Touch) []byte {
	t.Helper()
	b, e := keys.Bytes(l)
	if e != api.OK {
		t.Fatalf("touches: error %d", e)
	}
	return b
}

// P19.3: the bytes, one by one.
func TestBytes(t *testing.T) {
	u := made(t, api.UlaSetup{
		Screen:  small,
		Touches: []api.Touch{key(10, 2, true), ear(300, true)},
		Patches: []api.Patch{{Bank: 5, Bytes: []byte{1, 2}}, {Bank: 7, At: 16383, Bytes: []byte{9}}},
		Shadow:  true,
	})
	banks := slices.Concat(
		[]byte{0xf9, 0x00, 0x40, 1, 2}, make([]byte, 16382),
		[]byte{0xf9, 0x00, 0x40}, make([]byte, 16383), []byte{9})
	begin := slices.Concat([]byte{7, 18, 32, 1, 16, 3, 4, 5, 11, 2, 10, 1, 2, 1, 0xf9, 0x2c, 1, 2, 0, 1}, banks)
	if b := u.Bytes(); !bytes.Equal(b, slices.Concat(begin, []byte{1, 7, 0, 0, 0xf8, 0xff, 0, 0})) {
		t.Errorf("Bytes() = % x ..", b[len(b)-30:])
	}
	ok(t, u.Out(api.PortUla, 0x12))
	u.Run(36)
	ok(t, u.Out(api.PortUla, 0x0a))
	// Five borders and a beep are told, and the first byte, which floats.
	if b := u.Bytes(); !bytes.Equal(b, slices.Concat(begin, []byte{1, 2, 1, 2, 0, 36, 7})) {
		t.Errorf("Bytes() = % x ..", b[len(b)-30:])
	}
}

// P19.3: of the most touches, each as long as they get.
func TestBytesOfTheMostTouches(t *testing.T) {
	l := slices.Repeat([]api.Touch{key(api.MaxTime, 39, true)}, api.MaxTouches)
	u := made(t, api.UlaSetup{Screen: classic, Touches: l})
	if p := partsOf(t, u); !bytes.Equal(p.touches, touchBytes(t, l)) {
		t.Errorf("%d bytes", len(p.touches))
	}
	if r, e := ula.Read(u.Bytes()); e != api.OK || !bytes.Equal(r.Bytes(), u.Bytes()) {
		t.Errorf("Read: error %d", e)
	}
}

// P19.3, rule 3
func TestBytesAreNewMemory(t *testing.T) {
	u := made(t, api.UlaSetup{Screen: small, Touches: []api.Touch{key(0, 0, true)}, Patches: []api.Patch{{Bank: 5, Bytes: []byte{1}}}})
	one := u.Bytes()
	copied := bytes.Clone(one)
	r, e := ula.Read(one)
	if e != api.OK || !bytes.Equal(one, copied) {
		t.Fatalf("Read: error %d, or it changes the bytes", e)
	}
	clear(one[:cap(one)])
	if !bytes.Equal(u.Bytes(), copied) || !bytes.Equal(r.Bytes(), copied) {
		t.Error("a chip is of its bytes' memory")
	}
	ok(t, r.Put(5, 0, 9))
	ok(t, r.Put(7, 0, 9))
	ok(t, r.Touch(nil))
	r.Run(100)
	if !bytes.Equal(u.Bytes(), copied) {
		t.Error("two chips share something")
	}
}

// P19.3: a chip that is read is as it was.
func TestReadOfBytes(t *testing.T) {
	u := made(t, api.UlaSetup{Screen: small, Touches: []api.Touch{key(3, 0, true)}, Patches: []api.Patch{{Bank: 7, Bytes: []byte{77}}}})
	ok(t, u.Out(api.PortPage, 8))
	ok(t, u.Out(api.PortUla, 0x1b))
	u.Run(36)
	ok(t, u.Out(api.PortUla, 0x14))
	r, e := ula.Read(u.Bytes())
	if e != api.OK || r.Clock() != 36 || r.Seq() != 7 || r.Border() != 4 || !r.Shadow() {
		t.Fatalf("Read: error %d, at %d, Seq %d, border %d, %t", e, r.Clock(), r.Seq(), r.Border(), r.Shadow())
	}
	checkIn(t, r, api.PortNone, 0, 77)
	checkIn(t, r, api.PortUla, 0, 0xbe)
	check(t, r.Tick(), did(36, 7, api.EvBeep, 0, 2), did(36, 8, api.EvAttr, 7*16384+6144, 0))
	if e := r.Touch(nil); e != api.ErrLate {
		t.Errorf("Touch: error %d", e)
	}
}

// P19.3: what is at an edge may be.
func TestReadOfEdges(t *testing.T) {
	u := of(t, classic)
	number := func(at int, n uint64) func(p *parts) { return func(p *parts) { p.numbers[at] = n } }
	for name, change := range map[string]func(p *parts){
		"unchanged":        func(p *parts) {},
		"the shadow":       number(shadowAt, 1),
		"the least border": number(borderAt, 0),
		"the most border":  number(borderAt, 7),
		"the most bits":    number(bitsAt, 3),
		"the most told":    number(toldAt, 3),
		"nothing floats":   number(floatsAt, 0),
		"another floats":   number(floatsAt, 248),
		"the last time":    number(clockAt, api.MaxTime),
		"the last Seq":     number(seqAt, api.MaxSeq),
		"another screen":   func(p *parts) { p.screen, _ = tstate.Bytes(least) },
		"touches":          func(p *parts) { p.touches = touchBytes(t, []api.Touch{key(3, 4, true)}) },
		"other bytes":      func(p *parts) { p.five[16383], p.seven[0] = 5, 7 },
	} {
		b := told(t, u, change)
		r, e := ula.Read(b)
		if e != api.OK || !bytes.Equal(r.Bytes(), b) {
			t.Errorf("%s: Read: error %d", name, e)
		}
	}
}

func checkRefused(t *testing.T, name string, b []byte) {
	t.Helper()
	if u, e := ula.Read(b); u != nil || e != api.ErrBad {
		t.Errorf("%s: Read: error %d", name, e)
	}
}

// P19.3: what is no chip's bytes.
func TestReadRefuses(t *testing.T) {
	u := made(t, api.UlaSetup{Screen: classic, Touches: []api.Touch{key(3, 4, true)}})
	for name, change := range map[string]func(p *parts){
		"a screen that isn't":   func(p *parts) { p.screen[1] = 230 },
		"half a screen":         func(p *parts) { p.screen = p.screen[:3] },
		"no screen":             func(p *parts) { p.screen = nil },
		"more than a screen":    func(p *parts) { p.screen = append(p.screen, 0) },
		"no key":                func(p *parts) { p.touches[3] = 40 },
		"half a touch":          func(p *parts) { p.touches = p.touches[:3] },
		"no touches' bytes":     func(p *parts) { p.touches = nil },
		"more than touches":     func(p *parts) { p.touches = append(p.touches, 0) },
		"touches that fall":     func(p *parts) { p.touches = []byte{2, 3, 1, 4, 1, 2, 1, 4, 0} },
		"a bank 5 too short":    func(p *parts) { p.five = p.five[1:] },
		"a bank 5 too long":     func(p *parts) { p.five = append(p.five, 0) },
		"no bank 5":             func(p *parts) { p.five = nil },
		"a bank 7 too short":    func(p *parts) { p.seven = p.seven[1:] },
		"a bank 7 too long":     func(p *parts) { p.seven = append(p.seven, 0) },
		"no bank 7":             func(p *parts) { p.seven = nil },
		"banks of unlike sizes": func(p *parts) { p.five, p.seven = p.five[1:], append(p.seven, 0) },
	} {
		checkRefused(t, name, told(t, u, change))
	}
	for at, most := range [countAt]uint64{1, 7, 3, 3, 255, api.MaxTime, api.MaxSeq} {
		for _, n := range []uint64{most + 1, most + 8, 256, 512, 1 << 48, 1 << 63, 1<<63 + 1, math.MaxUint64} {
			if n > most {
				checkRefused(t, "a number too great", told(t, u, func(p *parts) { p.numbers[at] = n }))
			}
		}
	}
}

// P19.3: bytes that are missing, or left, or in another way.
func TestReadRefusesOtherBytes(t *testing.T) {
	u := made(t, api.UlaSetup{Screen: small, Touches: []api.Touch{key(3, 4, true)}})
	b := u.Bytes()
	for n := range b {
		if n < 40 || n > len(b)-40 || n%1000 < 3 {
			checkRefused(t, "too few", b[:n])
		}
	}
	checkRefused(t, "none", nil)
	checkRefused(t, "one more", append(bytes.Clone(b), 0))
	checkRefused(t, "twice", append(bytes.Clone(b), b...))
	// Numbers in two bytes that have one: the first block's length, the last of all.
	checkRefused(t, "a length in another way", append([]byte{0xf8}, b...))
	checkRefused(t, "a number in another way", slices.Insert(bytes.Clone(b), len(b)-1, 0xf8))
	checkRefused(t, "a block too long", slices.Concat(octet.Number(nil, api.MaxBlock+1), make([]byte, api.MaxBlock+1)))
}

// P19.3: whatever is read is told so again.
func TestReadOfTurnedBytes(t *testing.T) {
	u := made(t, api.UlaSetup{Screen: small, Touches: []api.Touch{key(3, 4, true), ear(300, true)}})
	ok(t, u.Out(api.PortUla, 0x12))
	u.Run(500)
	b := u.Bytes()
	for at := range b {
		if at > 40 && at < 16400 || at > 16440 && at < len(b)-20 {
			continue
		}
		for bit := range 8 {
			turned := bytes.Clone(b)
			turned[at] ^= 1 << bit
			checkRead(t, turned)
		}
	}
}

// checkRead looks whether bytes are no chip's, or told so again, and whether that
// one goes on.
func checkRead(t *testing.T, b []byte) {
	t.Helper()
	u, e := ula.Read(b)
	if e != api.OK {
		if u != nil || e != api.ErrBad {
			t.Fatalf("Read: error %d", e)
		}
		return
	}
	if !bytes.Equal(u.Bytes(), b) {
		t.Fatalf("% x is told in other bytes", b[len(b)-20:])
	}
	from, seq := u.Clock(), u.Seq()
	l := u.Run(from + 300)
	for n, x := range l {
		if x.Seq != seq+int64(n) || x.Chip != api.ChipUla || x.Time < from || x.Time >= u.Clock() {
			t.Fatalf("% x goes on by %+v", b[len(b)-20:], l)
		}
	}
	if u.Clock() != min(from+300, api.MaxTime) || u.Seq() != seq+int64(len(l)) {
		t.Fatalf("% x goes on to %d", b[len(b)-20:], u.Clock())
	}
}

func FuzzRead(f *testing.F) {
	for n, s := range screens {
		u := made(f, api.UlaSetup{Screen: s, Touches: []api.Touch{key(3, 4, true), ear(30, true)}, Shadow: n%2 == 0})
		f.Add(u.Bytes())
		u.Out(api.PortUla, 0x12)
		u.Run(int64(100 * n))
		f.Add(u.Bytes())
	}
	f.Fuzz(checkRead)
}
