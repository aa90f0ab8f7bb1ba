package regs_test

import (
	"bytes"
	"math"
	"testing"

	"pendulum/api"
	"pendulum/octet"
	"pendulum/regs"
)

// told is what the chapter says of the bytes, place by place, ahead of their sum.
func told(r api.Regs) []byte {
	b := []byte{r.A, r.F, r.B, r.C, r.D, r.E, r.H, r.L, r.I, r.R}
	for _, v := range []uint16{r.IX, r.IY, r.SP, r.PC, r.WZ, r.AF2, r.BC2, r.DE2, r.HL2} {
		b = append(b, byte(v/256), byte(v%256))
	}
	bits := byte(0)
	if r.IFF1 {
		bits++
	}
	if r.IFF2 {
		bits += 2
	}
	if r.Halt {
		bits += 4
	}
	if r.Late {
		bits += 8
	}
	return append(b, bits, byte(r.IM))
}

// summed answers b with its sum behind it.
func summed(b []byte) []byte {
	sum := octet.Sum(b)
	return append(bytes.Clone(b), byte(sum/256), byte(sum%256))
}

// mayBe are registers with each bit of the switches, and each mode.
func mayBe() []api.Regs {
	list := []api.Regs{{}, regs.Reset(), full(), ones()}
	for bits := range 16 {
		for mode := range 3 {
			r := full()
			r.IFF1, r.IFF2 = bits%2 == 1, bits/2%2 == 1
			r.Halt, r.Late = bits/4%2 == 1, bits/8%2 == 1
			r.IM = mode
			list = append(list, r)
		}
	}
	return list
}

// P8.2: one whole answer, its sum written out.
func TestBytesOfOne(t *testing.T) {
	want := []byte{
		0x11, 0x22, 0x33, 0x44, 0x55, 0x66, 0x77, 0x88, 0x99, 0xaa,
		0x12, 0x34, 0x56, 0x78, 0x9a, 0xbc, 0xde, 0xf0, 0x0f, 0xed,
		0xcb, 0xa9, 0x87, 0x65, 0x43, 0x21, 0x02, 0x46,
		0x09, 0x02,
	}
	b, err := regs.Bytes(full())
	if err != api.OK || len(b) != 32 || !bytes.Equal(b[:30], want) {
		t.Fatalf("Bytes = % x, error %d", b, err)
	}
	if sum := octet.Sum(want); uint16(b[30])*256+uint16(b[31]) != sum {
		t.Errorf("the sum of % x is told as % x, want %04x", want, b[30:], sum)
	}
}

// P8.2, P8.3
func TestReadOfBytesAreTheRegisters(t *testing.T) {
	for _, r := range mayBe() {
		b, err := regs.Bytes(r)
		if err != api.OK || !bytes.Equal(b, summed(told(r))) {
			t.Errorf("Bytes(%+v) = % x, error %d", r, b, err)
		}
		before := bytes.Clone(b)
		if got, err := regs.Read(b); err != api.OK || got != r {
			t.Errorf("Read(% x) = %+v, error %d, want %+v", b, got, err, r)
		}
		if !bytes.Equal(b, before) {
			t.Errorf("Read changed % x to % x", before, b)
		}
	}
}

// P8.2
func TestBytesRefusesWhatMayNotBe(t *testing.T) {
	for _, mode := range []int{-1, 3, 255, 256, 257, math.MinInt, math.MaxInt} {
		r := full()
		r.IM = mode
		if b, err := regs.Bytes(r); err != api.ErrArg || len(b) != 0 {
			t.Errorf("mode %d: Bytes = % x, error %d", mode, b, err)
		}
	}
}

// P8.2
func TestReadRefusesWhatAreNoRegistersBytes(t *testing.T) {
	refused := func(name string, b []byte) {
		if r, err := regs.Read(b); err != api.ErrBad || r != (api.Regs{}) {
			t.Errorf("%s: Read(% x) = %+v, error %d", name, b, r, err)
		}
	}
	plain := told(full())
	whole := summed(plain)
	refused("nothing", nil)
	refused("an empty list", []byte{})
	for n := range whole {
		refused("too few bytes", whole[:n])
	}
	refused("a byte more", append(bytes.Clone(whole), 0))
	refused("twice", append(bytes.Clone(whole), whole...))
	refused("a byte more within the sum", summed(append(bytes.Clone(plain), 0)))
	refused("a byte less within the sum", summed(plain[:29]))
	refused("the sum's low byte first", append(bytes.Clone(plain), whole[31], whole[30]))
	for at := range whole {
		for bit := range 8 {
			b := bytes.Clone(whole)
			b[at] ^= 1 << bit
			refused("another bit", b)
		}
	}
	for mode := 3; mode < 256; mode++ {
		b := bytes.Clone(plain)
		b[29] = byte(mode)
		refused("a mode that may not be", summed(b))
	}
	for bits := 16; bits < 256; bits++ {
		b := bytes.Clone(plain)
		b[28] = byte(bits)
		refused("a bit that none has", summed(b))
	}
}

// P8.3: whatever is read is put so again.
func TestNoOtherBytesAreReadAsRegisters(t *testing.T) {
	plain := told(full())
	for at := range plain {
		for c := range 256 {
			b := bytes.Clone(plain)
			b[at] = byte(c)
			checkRead(t, b)
			checkRead(t, summed(b))
		}
	}
}

func FuzzRead(f *testing.F) {
	f.Add(told(full()))
	f.Add(summed(told(full())))
	f.Fuzz(func(t *testing.T, b []byte) {
		checkRead(t, b)
		checkRead(t, summed(b))
	})
}

func checkRead(t *testing.T, b []byte) {
	r, err := regs.Read(b)
	if err != api.OK {
		if err != api.ErrBad || r != (api.Regs{}) {
			t.Fatalf("Read(% x) = %+v, error %d", b, r, err)
		}
		return
	}
	if again, err := regs.Bytes(r); err != api.OK || !bytes.Equal(again, b) {
		t.Fatalf("% x is put again as % x, error %d", b, again, err)
	}
}

// P8.2, rule 3
func TestBytesAreNewMemory(t *testing.T) {
	want := summed(told(full()))
	one, _ := regs.Bytes(full())
	clear(one[:cap(one)])
	if two, _ := regs.Bytes(full()); !bytes.Equal(two, want) {
		t.Errorf("an answer is another's memory: % x", two)
	}
}
