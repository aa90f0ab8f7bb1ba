package octet

import "sync"

const (
	sumStart = 0xffff
	sumTwist = 0x1021
)

// sumTable has for each high byte of a sum what eight doublings make of it.
var sumTable = sync.OnceValue(makeSumTable)

// Sum answers the sum of all pieces, one behind the other.
func Sum(b ...[]byte) uint16 {
	table := sumTable()
	sum := uint16(sumStart)
	for _, piece := range b {
		for _, c := range piece {
			sum = sum<<8 ^ table[byte(sum>>8)^c]
		}
	}
	return sum
}

func makeSumTable() (table [256]uint16) {
	for i := range table {
		sum := uint16(i) << 8
		for range 8 {
			sum = doubled(sum)
		}
		table[i] = sum
	}
	return table
}

func doubled(sum uint16) uint16 {
	if sum&0x8000 != 0 {
		return sum<<1 ^ sumTwist
	}
	return sum << 1
}
