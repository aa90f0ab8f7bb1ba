package step

import (
	"pendulum/api"
	"pendulum/wide"
)

// block does one of the operations that go through memory, and lets it come
// again, if it repeats and isn't at its end.
func (w *row) block(y, z int) {
	by := uint16(1)
	if y%2 == 1 {
		by = 0xffff
	}
	goesOn := [4]func(*row, uint16) bool{(*row).moveOne, (*row).findOne, (*row).takeOneIn, (*row).giveOneOut}[z](w, by)
	if repeats := y >= 6; !repeats || !goesOn {
		return
	}
	w.idle(5)
	w.r.PC -= 2
	w.r.WZ = w.r.PC + 1
}

// moveOne moves a byte, and answers whether others are left.
func (w *row) moveOne(by uint16) bool {
	v := w.read(w.pair(pairHL))
	w.write(w.pair(pairDE), v)
	w.idle(2)
	w.shiftPair(pairHL, by)
	w.shiftPair(pairDE, by)
	left := w.countDown()
	w.r.F = wide.Move(w.r.A, v, left, w.r.F)
	return left != 0
}

// findOne compares a byte, and answers whether others are left, and it wasn't this one.
func (w *row) findOne(by uint16) bool {
	v := w.read(w.pair(pairHL))
	w.idle(5)
	w.shiftPair(pairHL, by)
	w.r.WZ += by
	left := w.countDown()
	w.r.F = wide.Find(w.r.A, v, left, w.r.F)
	return left != 0 && w.r.F&api.FlagZ == 0
}

// takeOneIn takes a byte in, and answers whether others are left. The port's
// high byte is the count ahead of it.
func (w *row) takeOneIn(by uint16) bool {
	w.idle(1)
	port := w.pair(pairBC)
	v := w.in(port)
	w.r.WZ = port + by
	w.r.B--
	w.write(w.pair(pairHL), v)
	w.shiftPair(pairHL, by)
	w.r.F = wide.Port(v, w.r.B, w.r.C+byte(by))
	return w.r.B != 0
}

// giveOneOut gives a byte out, and answers whether others are left. The port's
// high byte is the count behind it.
func (w *row) giveOneOut(by uint16) bool {
	w.idle(1)
	v := w.read(w.pair(pairHL))
	w.shiftPair(pairHL, by)
	w.r.B--
	port := w.pair(pairBC)
	w.out(port, v)
	w.r.WZ = port + by
	w.r.F = wide.Port(v, w.r.B, w.r.L)
	return w.r.B != 0
}

// countDown lets BC be one less, and answers it.
func (w *row) countDown() uint16 {
	w.shiftPair(pairBC, 0xffff)
	return w.pair(pairBC)
}
