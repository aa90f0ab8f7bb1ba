package decode_test

import (
	"strconv"
	"strings"

	"pendulum/api"
)

// What the chapter says, written out operation by operation.
var (
	oneOfMain  = listed("06 0e 16 1e 26 2e 36 3e c6 ce d6 de e6 ee f6 fe d3 db")
	waysOfMain = listed("10 18 20 28 30 38")
	twoOfMain  = listed("01 11 21 31 22 2a 32 3a c3 cd c2 ca d2 da e2 ea f2 fa c4 cc d4 dc e4 ec f4 fc")
	twoOfMore  = listed("43 4b 53 5b 63 6b 73 7b")
	inMemory   = listed("34 35 36 46 4e 56 5e 66 6e 70 71 72 73 74 75 77 7e 86 8e 96 9e a6 ae b6 be")
	doing      = listed("40 41 42 43 44 45 46 47 48 49 4a 4b 4c 4d 4e 4f 50 51 52 53 54 55 56 57 58 59 5a 5b 5c 5d 5e 5f " +
		"60 61 62 63 64 65 66 67 68 69 6a 6b 6c 6d 6e 6f 70 71 72 73 74 75 76 78 79 7a 7b 7c 7d 7e " +
		"a0 a1 a2 a3 a8 a9 aa ab b0 b1 b2 b3 b8 b9 ba bb")
	prefixes = listed("cb dd ed fd")
	lone     = listed("dd ed fd")
	indexed  = listed("dd fd")
)

// listed answers the bytes whose digits stand in a list.
func listed(list string) []bool {
	ops := make([]bool, 256)
	for _, digits := range strings.Fields(list) {
		op, err := strconv.ParseUint(digits, 16, 8)
		if err != nil {
			panic(err)
		}
		ops[op] = true
	}
	return ops
}

func in(ops []bool, op int) bool {
	return op >= 0 && op < len(ops) && ops[op]
}

// isThere answers whether the set has that operation by that index.
func isThere(set, index, op int) bool {
	if op < 0 || op > 255 {
		return false
	}
	switch [2]int{set, index} {
	case [2]int{0, 0}:
		return op != 0xcb && op != 0xed
	case [2]int{0, 1}, [2]int{0, 2}:
		return !in(prefixes, op)
	case [2]int{1, 0}, [2]int{2, 0}, [2]int{3, 1}, [2]int{3, 2}:
		return true
	}
	return false
}

// needed is what Needs should answer.
func needed(set, index, op int) (disp bool, imm int) {
	if !isThere(set, index, op) {
		return false, 0
	}
	switch set {
	case 0:
		if in(oneOfMain, op) || in(waysOfMain, op) {
			imm = 1
		} else if in(twoOfMain, op) {
			imm = 2
		}
		return index > 0 && in(inMemory, op), imm
	case 2:
		if in(twoOfMore, op) {
			imm = 2
		}
		return false, imm
	}
	return set == 3, 0
}

// bounds are those of an instruction's operands.
func bounds(i api.Ins) (disp, imm [2]int) {
	has, count := needed(i.Set, i.Index, i.Op)
	if has {
		disp = [2]int{-128, 127}
	}
	switch {
	case count == 2:
		imm = [2]int{0, 65535}
	case count == 1 && in(waysOfMain, i.Op):
		imm = [2]int{-128, 127}
	case count == 1:
		imm = [2]int{0, 255}
	}
	return disp, imm
}

func lengthOf(i api.Ins) int {
	if !isThere(i.Set, i.Index, i.Op) {
		return 0
	}
	has, count := needed(i.Set, i.Index, i.Op)
	n := [4][3]int{{1, 2, 2}, {2}, {2}, {0, 3, 3}}[i.Set][i.Index] + count
	if has {
		n++
	}
	return n
}

// mayBe is what Check should tell.
func mayBe(i api.Ins) bool {
	disp, imm := bounds(i)
	return isThere(i.Set, i.Index, i.Op) && i.Len == lengthOf(i) &&
		disp[0] <= i.Disp && i.Disp <= disp[1] && imm[0] <= i.Imm && i.Imm <= imm[1]
}

// put is what Bytes should answer of one that may be.
func put(i api.Ins) []byte {
	ahead := [3]string{"", "\xdd", "\xfd"}[i.Index] + [4]string{"", "\xcb", "\xed", "\xcb"}[i.Set]
	op, disp, imm := []byte{byte(i.Op)}, []byte{byte((i.Disp + 256) % 256)}, []byte{byte((i.Imm + 256) % 256), byte(i.Imm / 256)}
	has, count := needed(i.Set, i.Index, i.Op)
	b := []byte(ahead)
	if i.Set == 3 {
		return append(append(b, disp...), op...)
	}
	b = append(b, op...)
	if has {
		b = append(b, disp...)
	}
	return append(b, imm[:count]...)
}

// taken is what Of should answer, told byte by byte.
func taken(b []byte) (api.Ins, api.Errno) {
	if len(b) == 0 {
		return api.Ins{}, api.ErrMore
	}
	var i api.Ins
	rest := b
	if in(indexed, int(rest[0])) && len(rest) == 1 {
		return api.Ins{}, api.ErrMore
	}
	if in(indexed, int(rest[0])) && in(lone, int(rest[1])) {
		return api.Ins{Op: int(rest[0]), Len: 1}, api.OK
	}
	if in(indexed, int(rest[0])) {
		i.Index = 1 + int(rest[0])/0xfd
		rest = rest[1:]
	}
	if rest[0] == 0xcb || rest[0] == 0xed {
		i.Set = map[byte]int{0xcb: 1, 0xed: 2}[rest[0]]
		rest = rest[1:]
	}
	if i.Set == 1 && i.Index > 0 {
		i.Set = 3
		if len(rest) < 2 {
			return api.Ins{}, api.ErrMore
		}
		i.Disp, rest = int(int8(rest[0])), rest[1:]
	}
	if len(rest) == 0 {
		return api.Ins{}, api.ErrMore
	}
	i.Op, rest = int(rest[0]), rest[1:]
	has, count := needed(i.Set, i.Index, i.Op)
	if has && i.Set == 0 {
		if len(rest) == 0 {
			return api.Ins{}, api.ErrMore
		}
		i.Disp, rest = int(int8(rest[0])), rest[1:]
	}
	if len(rest) < count {
		return api.Ins{}, api.ErrMore
	}
	switch {
	case count == 1 && in(waysOfMain, i.Op):
		i.Imm = int(int8(rest[0]))
	case count == 1:
		i.Imm = int(rest[0])
	case count == 2:
		i.Imm = int(rest[0]) + 256*int(rest[1])
	}
	i.Len = len(b) - len(rest) + count
	return i, api.OK
}

// eachOperation goes over all operations that there are, without operands.
func eachOperation(yield func(i api.Ins) bool) {
	for set := range 4 {
		for index := range 3 {
			for op := range 256 {
				i := api.Ins{Set: set, Index: index, Op: op}
				i.Len = lengthOf(i)
				if isThere(set, index, op) && !yield(i) {
					return
				}
			}
		}
	}
}

// eachInstruction goes over all operations, each with operands at their bounds and between.
func eachInstruction(yield func(i api.Ins) bool) {
	for i := range eachOperation {
		disps, imms := bounds(i)
		for _, i.Disp = range between(disps) {
			for _, i.Imm = range between(imms) {
				if !yield(i) {
					return
				}
			}
		}
	}
}

func between(bounds [2]int) (list []int) {
	for _, v := range []int{-128, -127, -2, -1, 0, 1, 5, 126, 127, 128, 129, 254, 255, 256, 257, 513, 0x7fff, 0x8000, 0xdded, 65534, 65535} {
		if bounds[0] <= v && v <= bounds[1] {
			list = append(list, v)
		}
	}
	return list
}
