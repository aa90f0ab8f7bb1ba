// Package octet is layer 1: numbers and blocks as bytes, a reader of them that
// remembers its first error, and a sum.
package octet

import (
	"math/bits"
	"slices"

	"pendulum/api"
)

// singleMost is the greatest number that is one byte; a first byte above it
// tells by how much how many bytes follow.
const singleMost = 247

// Number answers b and the bytes of x.
func Number(b []byte, x uint64) []byte {
	return slices.Concat(b, numberBytes(x))
}

// Signed answers b and the bytes of x, which may be below 0.
func Signed(b []byte, x int64) []byte {
	return Number(b, fold(x))
}

// Block answers b, the length of p as a number, and p.
func Block(b, p []byte) ([]byte, api.Errno) {
	if len(p) > api.MaxBlock {
		return nil, api.ErrLong
	}
	return slices.Concat(b, numberBytes(uint64(len(p))), p), api.OK
}

func numberBytes(x uint64) []byte {
	if x <= singleMost {
		return []byte{byte(x)}
	}
	count := (bits.Len64(x) + 7) / 8
	p := make([]byte, 0, 1+count)
	p = append(p, byte(singleMost+count))
	for ; x != 0; x >>= 8 {
		p = append(p, byte(x))
	}
	return p
}

// fold lays the signed numbers on the others: 0, -1, 1, -2, 2 and so on. The
// complement of 2x is -2x - 1, for the least number too.
func fold(x int64) uint64 {
	if x < 0 {
		return ^(uint64(x) << 1)
	}
	return uint64(x) << 1
}

func unfold(n uint64) int64 {
	half := int64(n >> 1)
	if n&1 != 0 {
		return ^half
	}
	return half
}
