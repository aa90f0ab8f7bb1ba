package text

import (
	"strconv"
	"strings"

	"pendulum/api"
	"pendulum/decode"
)

// bytesWord stands ahead of a text that is bytes.
const bytesWord = "DB "

// numberSigns are those that numbers are made of.
const numberSigns = "+-0123456789"

// The bytes that may be a lone prefix.
const (
	ixByte = 0xdd
	iyByte = 0xfd
)

// found answers the instruction whose text s may be, if the numbers behind its
// first n bytes are operands: one that may not be, if there is none.
func found(s string, n int) api.Ins {
	head, tail := s[:n], s[n:]
	i, _ := ofBare(head + strings.Map(keptInBare, tail))
	return withOperands(i, strings.FieldsFunc(tail, isOfNoNumber))
}

// behindNumber answers the place behind s's first number, its end if it has none.
func behindNumber(s string) int {
	first := strings.IndexAny(s, numberSigns)
	if first < 0 {
		return len(s)
	}
	return len(s) - len(strings.TrimLeft(s[first:], numberSigns))
}

func keptInBare(c rune) rune {
	if isOfNoNumber(c) {
		return c
	}
	return -1
}

func isOfNoNumber(c rune) bool {
	return !strings.ContainsRune(numberSigns, c)
}

// withOperands answers i with the numbers as its operands, a Disp ahead of an Imm.
func withOperands(i api.Ins, numbers []string) api.Ins {
	disp, imm := decode.Needs(i.Set, i.Index, i.Op)
	if disp && len(numbers) > 0 {
		i.Disp, numbers = value(numbers[0]), numbers[1:]
	}
	if imm > 0 && len(numbers) > 0 {
		i.Imm = value(numbers[0])
	}
	return i
}

// value answers some number for a word that is none, which Parse then refuses.
func value(word string) int {
	v, _ := strconv.Atoi(word)
	return v
}

// ofDigits answers the instruction whose bytes' text s may be: one that may not
// be, if there is none. Behind them stands a byte ahead of which a prefix is a
// lone one; where bytes are missing it tells another text than s.
func ofDigits(s string) api.Ins {
	words, is := strings.CutPrefix(s, bytesWord)
	if !is {
		return api.Ins{}
	}
	var b []byte
	for _, word := range strings.Split(words, ",") {
		b = append(b, byte(value(word)))
	}
	i, _ := decode.Of(append(b, ixByte))
	return i
}
