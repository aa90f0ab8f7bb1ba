package bank_test

import (
	"math"
	"testing"

	"pendulum/api"
	"pendulum/bank"
)

// bits answers whether all bits of a mask are set.
func bits(v byte, mask byte) bool { return v&mask == mask }

// slots is a model of the table: of each B's choice the digits of its banks.
func slots(p api.Page) (want [4]int) {
	if bits(p.B, 1) {
		choice := 0
		if bits(p.B, 2) {
			choice++
		}
		if bits(p.B, 4) {
			choice += 2
		}
		for slot := range want {
			want[slot] = int([]string{"0123", "4567", "4563", "4763"}[choice][slot] - '0')
		}
		return want
	}
	want = [4]int{8, 5, 2, int(p.A) % 8}
	if bits(p.A, 0x10) {
		want[0]++
	}
	if bits(p.B, 4) {
		want[0] += 2
	}
	return want
}

// pages goes over all pages.
func pages(yield func(api.Page) bool) {
	for n := range 1 << 16 {
		if !yield(api.Page{A: byte(n), B: byte(n >> 8)}) {
			return
		}
	}
}

// P13.1
func TestSlotsOfExamples(t *testing.T) {
	for p, want := range map[api.Page][4]int{
		{}:                 {8, 5, 2, 0},
		{A: 7}:             {8, 5, 2, 7},
		{A: 0x10}:          {9, 5, 2, 0},
		{B: 4}:             {10, 5, 2, 0},
		{A: 0x10, B: 4}:    {11, 5, 2, 0},
		{A: 0x15, B: 6}:    {11, 5, 2, 5},
		{A: 0xef, B: 0xfa}: {8, 5, 2, 7},
		{B: 1}:             {0, 1, 2, 3},
		{B: 3}:             {4, 5, 6, 7},
		{B: 5}:             {4, 5, 6, 3},
		{B: 7}:             {4, 7, 6, 3},
		{A: 0xff, B: 0xf9}: {0, 1, 2, 3},
		{A: 0xff, B: 0xff}: {4, 7, 6, 3},
	} {
		if got := bank.Slots(p); got != want {
			t.Errorf("Slots(%02x) = %d, want %d", p, got, want)
		}
	}
}

// P13.1
func TestSlotsOfAllPages(t *testing.T) {
	for p := range pages {
		if got := bank.Slots(p); got != slots(p) {
			t.Fatalf("Slots(%02x) = %d, want %d", p, got, slots(p))
		}
	}
}

// P13.1
func TestPicture(t *testing.T) {
	for p := range pages {
		want := 5
		if bits(p.A, 8) {
			want = 7
		}
		if got := bank.Picture(p); got != want {
			t.Fatalf("Picture(%02x) = %d, want %d", p, got, want)
		}
	}
}

// P13.1: all pages, and bytes that are locks and others.
func TestTold(t *testing.T) {
	for p := range pages {
		for _, v := range []byte{0, 1, 0x20, 0x37, 0xdf, 0xff} {
			a, b, err := api.Page{A: v, B: p.B}, api.Page{A: p.A, B: v}, api.OK
			if bits(p.A, 0x20) {
				a, b, err = api.Page{}, api.Page{}, api.ErrState
			}
			if got, e := bank.Told(p, false, v); got != a || e != err {
				t.Fatalf("Told(%02x, false, %02x) = %02x, error %d, want %02x, error %d", p, v, got, e, a, err)
			}
			if got, e := bank.Told(p, true, v); got != b || e != err {
				t.Fatalf("Told(%02x, true, %02x) = %02x, error %d, want %02x, error %d", p, v, got, e, b, err)
			}
		}
	}
}

func patch(bank, at, count int) api.Patch {
	return api.Patch{Bank: bank, At: at, Bytes: make([]byte, count)}
}

// P13.1
func TestCheckPatch(t *testing.T) {
	for number := range 12 {
		for _, p := range []api.Patch{
			patch(number, 0, 0), patch(number, 0, 1), patch(number, 0, 16384), patch(number, 1, 16383),
			patch(number, 8192, 8192), patch(number, 16382, 2), patch(number, 16383, 1), patch(number, 16383, 0),
			{Bank: number, At: 100},
		} {
			if err := bank.CheckPatch(p); err != api.OK {
				t.Errorf("CheckPatch of %d bytes of %d at %d: error %d", len(p.Bytes), p.Bank, p.At, err)
			}
		}
		for _, p := range refused(number) {
			if err := bank.CheckPatch(p); err != api.ErrArg {
				t.Errorf("CheckPatch of %d bytes of %d at %d: error %d", len(p.Bytes), p.Bank, p.At, err)
			}
		}
	}
}

// P13.1: the place behind a bank's last one has room for no bytes, and those
// lie within.
func TestCheckPatchOfNothingBehindTheLast(t *testing.T) {
	if err := bank.CheckPatch(patch(3, 16384, 0)); err != api.OK {
		t.Errorf("error %d", err)
	}
}

// refused answers patches that don't lie within their bank.
func refused(number int) []api.Patch {
	return []api.Patch{
		patch(number, -1, 0), patch(number, -1, 1), patch(number, -1, 2), patch(number, math.MinInt, 5),
		patch(number, 0, 16385), patch(number, 1, 16384), patch(number, 8192, 8193), patch(number, 16383, 2),
		patch(number, 16384, 1), patch(number, 16385, 0), patch(number, 1<<32, 0), patch(number, 1<<32, 1),
		patch(number, math.MaxInt, 0), patch(number, math.MaxInt, 1), patch(number, math.MaxInt, 16384),
		patch(number, -16384, 16384), patch(number, -1, 1<<17), patch(number, 0, 1<<17),
	}
}

// P13.1
func TestCheckPatchOfNoBank(t *testing.T) {
	for _, number := range []int{-1, -5, 12, 13, 255, 256, 261, 1 << 32, 1<<32 + 5, math.MaxInt, math.MinInt} {
		for _, p := range []api.Patch{patch(number, 0, 0), patch(number, 100, 2), patch(number, -1, 1)} {
			if err := bank.CheckPatch(p); err != api.ErrArg {
				t.Errorf("CheckPatch of %d bytes of %d at %d: error %d", len(p.Bytes), p.Bank, p.At, err)
			}
		}
	}
}
