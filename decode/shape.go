package decode

import "pendulum/api"

// Needs answers whether an operation has a Disp, and how many bytes its Imm has.
func Needs(set, index, op int) (disp bool, imm int) {
	switch is := isOne(set, index, op); {
	case is && set == api.SetMain:
		return index != 0 && byHL(op), immOfMain(op)
	case is && set == api.SetMore:
		return false, immOfMore(op)
	default:
		return is && set == api.SetBoth, 0
	}
}

// Reaches answers whether i is one of SetMain that reaches into memory by HL.
func Reaches(i api.Ins) bool {
	return i.Set == api.SetMain && isByte(i.Op) && byHL(i.Op)
}

// isOne answers whether there is such an operation.
func isOne(set, index, op int) bool {
	switch indexed := index == 1 || index == 2; {
	case !isByte(op):
		return false
	case set == api.SetMain && indexed:
		return op != bitsByte && !makesLone(byte(op))
	case set == api.SetMain:
		return index == 0 && op != bitsByte && op != moreByte
	case set == api.SetBits || set == api.SetMore:
		return index == 0
	default:
		return set == api.SetBoth && indexed
	}
}

func isByte(op int) bool {
	return op >= 0 && op <= 0xff
}

func byHL(op int) bool {
	const halt = 0x76
	switch x, y, z, _, _ := Parts(op); x {
	case 0:
		return op == 0x34 || op == 0x35 || op == 0x36
	case 1:
		return (y == 6 || z == 6) && op != halt
	case 2:
		return z == 6
	default:
		return false
	}
}

func immOfMain(op int) int {
	switch op {
	case 0xd3, 0xdb:
		return 1
	case 0x22, 0x2a, 0x32, 0x3a, 0xc3, 0xcd:
		return 2
	}
	switch x, _, z, _, q := Parts(op); {
	case (x == 0 || x == 3) && z == 6 || jumps(api.SetMain, op):
		return 1
	case x == 0 && z == 1 && q == 0 || x == 3 && (z == 2 || z == 4):
		return 2
	default:
		return 0
	}
}

func immOfMore(op int) int {
	if x, _, z, _, _ := Parts(op); x == 1 && z == 3 {
		return 2
	}
	return 0
}

// jumps answers whether Imm is a way to go from here, which may be below 0.
func jumps(set, op int) bool {
	switch op {
	case 0x10, 0x18, 0x20, 0x28, 0x30, 0x38:
		return set == api.SetMain
	default:
		return false
	}
}

// length answers how many bytes i has, whatever its Len.
func length(i api.Ins) int {
	disp, imm := counts(i)
	n := 1 + disp + imm
	if i.Index != 0 {
		n++
	}
	if i.Set != api.SetMain {
		n++
	}
	return n
}

// counts answers how many bytes i's Disp and Imm have.
func counts(i api.Ins) (disp, imm int) {
	has, imm := Needs(i.Set, i.Index, i.Op)
	if has {
		disp = 1
	}
	return disp, imm
}
