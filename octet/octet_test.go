package octet_test

import (
	"bytes"
	"math"
	"testing"

	"pendulum/api"
	"pendulum/octet"
)

var numbers = []struct {
	x    uint64
	want []byte
}{
	{0, []byte{0}},
	{1, []byte{1}},
	{246, []byte{0xf6}},
	{247, []byte{0xf7}},
	{248, []byte{0xf8, 0xf8}},
	{255, []byte{0xf8, 0xff}},
	{256, []byte{0xf9, 0, 1}},
	{16384, []byte{0xf9, 0, 0x40}},
	{65535, []byte{0xf9, 0xff, 0xff}},
	{65536, []byte{0xfa, 0, 0, 1}},
	{0x123456, []byte{0xfa, 0x56, 0x34, 0x12}},
	{1<<24 - 1, []byte{0xfa, 0xff, 0xff, 0xff}},
	{1 << 24, []byte{0xfb, 0, 0, 0, 1}},
	{1 << 32, []byte{0xfc, 0, 0, 0, 0, 1}},
	{1 << 40, []byte{0xfd, 0, 0, 0, 0, 0, 1}},
	{1 << 48, []byte{0xfe, 0, 0, 0, 0, 0, 0, 1}},
	{1<<56 - 1, []byte{0xfe, 0xff, 0xff, 0xff, 0xff, 0xff, 0xff, 0xff}},
	{1 << 56, []byte{0xff, 0, 0, 0, 0, 0, 0, 0, 1}},
	{math.MaxUint64, []byte{0xff, 0xff, 0xff, 0xff, 0xff, 0xff, 0xff, 0xff, 0xff}},
}

var signedNumbers = []struct {
	x    int64
	want []byte
}{
	{0, []byte{0}},
	{-1, []byte{1}},
	{1, []byte{2}},
	{-3, []byte{5}},
	{3, []byte{6}},
	{123, []byte{0xf6}},
	{-124, []byte{0xf7}},
	{124, []byte{0xf8, 0xf8}},
	{-125, []byte{0xf8, 0xf9}},
	{math.MaxInt64, []byte{0xff, 0xfe, 0xff, 0xff, 0xff, 0xff, 0xff, 0xff, 0xff}},
	{math.MinInt64, []byte{0xff, 0xff, 0xff, 0xff, 0xff, 0xff, 0xff, 0xff, 0xff}},
}

// P1.1
func TestNumberPutsItsBytes(t *testing.T) {
	for _, n := range numbers {
		if got := octet.Number(nil, n.x); !bytes.Equal(got, n.want) {
			t.Errorf("Number(nil, %d) = % x, want % x", n.x, got, n.want)
		}
		if got := octet.Number([]byte("ab"), n.x); !bytes.Equal(got, append([]byte("ab"), n.want...)) {
			t.Errorf("Number(ab, %d) = % x", n.x, got)
		}
	}
}

// P1.1
func TestSignedPutsItsBytes(t *testing.T) {
	for _, n := range signedNumbers {
		if got := octet.Signed(nil, n.x); !bytes.Equal(got, n.want) {
			t.Errorf("Signed(nil, %d) = % x, want % x", n.x, got, n.want)
		}
		if got := octet.Signed([]byte("ab"), n.x); !bytes.Equal(got, append([]byte("ab"), n.want...)) {
			t.Errorf("Signed(ab, %d) = % x", n.x, got)
		}
	}
}

// P1.1
func TestBlockPutsLengthAndBytes(t *testing.T) {
	long := bytes.Repeat([]byte{7}, api.MaxBlock)
	for _, x := range []struct{ b, p, head []byte }{
		{nil, nil, []byte{0}},
		{nil, []byte{}, []byte{0}},
		{nil, []byte("ab"), []byte{2}},
		{[]byte("xyz"), []byte("ab"), []byte{'x', 'y', 'z', 2}},
		{nil, long[:247], []byte{0xf7}},
		{nil, long[:248], []byte{0xf8, 0xf8}},
		{nil, long, []byte{0xfa, 0, 0, 0x10}},
	} {
		got, err := octet.Block(x.b, x.p)
		if err != api.OK || !bytes.Equal(got, append(x.head, x.p...)) {
			t.Errorf("Block(% x, %d bytes): %d bytes, error %d", x.b, len(x.p), len(got), err)
		}
	}
}

// P1.1
func TestBlockRefusesOneByteMore(t *testing.T) {
	got, err := octet.Block([]byte("ab"), make([]byte, api.MaxBlock+1))
	if err != api.ErrLong || len(got) != 0 {
		t.Errorf("%d bytes, error %d", len(got), err)
	}
}

// P1.1, rule 3: what was handed in stays, its spare room too, and answers share nothing.
func TestPutsAnswerNewMemory(t *testing.T) {
	puts := []struct {
		name string
		put  func(b []byte) []byte
	}{
		{"Number", func(b []byte) []byte { return octet.Number(b, 300) }},
		{"Signed", func(b []byte) []byte { return octet.Signed(b, -300) }},
		{"Block", func(b []byte) []byte {
			got, _ := octet.Block(b, []byte("pq"))
			return got
		}},
		{"empty Block", func(b []byte) []byte {
			got, _ := octet.Block(b, nil)
			return got
		}},
	}
	for _, x := range puts {
		whole := []byte("abcdefghijklmnop")
		one := x.put(whole[:2])
		if string(whole) != "abcdefghijklmnop" {
			t.Errorf("%s wrote to what was handed in: %q", x.name, whole)
		}
		want := bytes.Clone(one)
		fill(x.put(whole[:2]))
		fill(whole)
		if !bytes.Equal(one, want) {
			t.Errorf("%s: answers share memory", x.name)
		}
		fill(one)
		if whole[0] != 0xee || string(whole[2:]) != string(bytes.Repeat([]byte{0xee}, 14)) {
			t.Errorf("%s: the answer shares memory with what was handed in", x.name)
		}
	}
}

// fill overwrites a slice and its spare room.
func fill(b []byte) {
	b = b[:cap(b)]
	for i := range b {
		b[i] = 0xee
	}
}
