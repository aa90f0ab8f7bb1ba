package decode

import "pendulum/api"

// Nothing answers whether i is one of SetMore that does nothing.
func Nothing(i api.Ins) bool {
	if i.Set != api.SetMore || Check(i) != api.OK {
		return false
	}
	switch x, y, z, _, _ := Parts(i.Op); x {
	case 1:
		return i.Op == 0x77 || i.Op == 0x7f
	case 2:
		return y < 4 || z > 3
	default:
		return true
	}
}

// Twin answers the instruction of the least Op that does the same.
func Twin(i api.Ins) api.Ins {
	if i.Set != api.SetMore || Check(i) != api.OK {
		return i
	}
	switch x, y, z, _, _ := Parts(i.Op); {
	case i.Op == 0x63:
		return ofMain(0x22, i.Imm)
	case i.Op == 0x6b:
		return ofMain(0x2a, i.Imm)
	case x == 1 && z == 4:
		i.Op = 0x44
	case x == 1 && z == 5 && y != 1:
		i.Op = 0x45
	case x == 1 && z == 6:
		i.Op = [4]int{0x46, 0x46, 0x56, 0x5e}[y%4]
	}
	return i
}

// ofMain answers one of SetMain whose Imm has two bytes.
func ofMain(op, imm int) api.Ins {
	return api.Ins{Set: api.SetMain, Op: op, Imm: imm, Len: 3}
}
