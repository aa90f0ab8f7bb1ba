package octet

import "sync"

const (
	sumStart = 0xffff
	sumTwist = 0x1021
)

// sumTable has for each high byte of a sum what eight doublings make of it. It
// stands beside sumWord, which tells the same without anything that is kept.
var sumTable = sync.OnceValue(makeSumTable)

// Sum answers the sum of all pieces, one behind the other.
func Sum(b ...[]byte) uint16 {
	sum := uint16(sumStart)
	for _, piece := range b {
		for _, c := range piece {
			sum = sum<<8 ^ sumWord(byte(sum>>8)^c)
		}
	}
	return sum
}

// TableWord answers the table's word for a high byte of a sum.
func TableWord(high byte) uint16 {
	return sumTable()[high]
}

// sumWord tells what eight doublings make of a high byte, all at once: a bit
// that goes out comes back thrice, where sumTwist has its bits (12, 5 and 0).
// Of those at 12 the upper four go out again within the eight, so that they
// are laid on the lower four ahead of it.
func sumWord(high byte) uint16 {
	out := uint16(high ^ high>>4)
	return out<<12 ^ out<<5 ^ out
}

func makeSumTable() (table [256]uint16) {
	for i := range table {
		sum := uint16(i) << 8
		for range 8 {
			sum = doubled(sum)
		}
		table[i] = sum
	}
	return table
}

func doubled(sum uint16) uint16 {
	if sum&0x8000 != 0 {
		return sum<<1 ^ sumTwist
	}
	return sum << 1
}
