package decode

import "pendulum/api"

// Check answers ErrArg for an instruction that may not be.
func Check(i api.Ins) api.Errno {
	if !isOne(i.Set, i.Index, i.Op) || i.Len != length(i) || !operandsMayBe(i) {
		return api.ErrArg
	}
	return api.OK
}

// Bytes answers the bytes of an instruction.
func Bytes(i api.Ins) ([]byte, api.Errno) {
	if err := Check(i); err != api.OK {
		return nil, err
	}
	disp, imm := Needs(i.Set, i.Index, i.Op)
	b := appendAhead(make([]byte, 0, i.Len), i)
	switch op := byte(i.Op); {
	case i.Set == api.SetBoth:
		b = append(b, byte(i.Disp), op)
	case disp:
		b = append(b, op, byte(i.Disp))
	default:
		b = append(b, op)
	}
	for n := range imm {
		b = append(b, byte(i.Imm>>(8*n)))
	}
	return b, api.OK
}

// appendAhead answers b with what tells i's Index and Set ahead of all else.
func appendAhead(b []byte, i api.Ins) []byte {
	switch i.Index {
	case 1:
		b = append(b, ixByte)
	case 2:
		b = append(b, iyByte)
	}
	switch i.Set {
	case api.SetBits, api.SetBoth:
		b = append(b, bitsByte)
	case api.SetMore:
		b = append(b, moreByte)
	}
	return b
}

func operandsMayBe(i api.Ins) bool {
	disp, imm := counts(i)
	return fits(i.Disp, disp, true) && fits(i.Imm, imm, jumps(i.Set, i.Op))
}

// fits answers whether v is told by so many bytes; by none 0 alone is.
func fits(v, count int, signed bool) bool {
	most := 1<<(8*count) - 1
	if signed {
		half := most >> 1
		return v >= half-most && v <= half
	}
	return v >= 0 && v <= most
}
