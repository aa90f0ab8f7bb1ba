package regs

import (
	"pendulum/api"
	"pendulum/wide"
)

const digits = "0123456789abcdef"

// Text answers the words of the registers as a line; nothing of such as may not be.
func Text(r api.Regs) string {
	if Check(r) != api.OK {
		return ""
	}
	var b []byte
	tell := func(name string, v uint16) {
		if len(b) > 0 {
			b = append(b, ' ')
		}
		b = append(b, name...)
		b = append(b, '=', digits[v>>12], digits[v>>8&15], digits[v>>4&15], digits[v&15])
	}
	tell("PC", r.PC)
	tell("SP", r.SP)
	tell("AF", wide.Pair(r.A, r.F))
	tell("BC", wide.Pair(r.B, r.C))
	tell("DE", wide.Pair(r.D, r.E))
	tell("HL", wide.Pair(r.H, r.L))
	tell("IX", r.IX)
	tell("IY", r.IY)
	return string(b)
}
