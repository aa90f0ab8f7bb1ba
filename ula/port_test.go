package ula_test

import (
	"math"
	"slices"
	"testing"

	"pendulum/api"
)

// P19.2: of PortUla the low three bits are the border, the next two the bits.
func TestOutOfTheUla(t *testing.T) {
	u := of(t, classic)
	for v := range 256 {
		before := partsOf(t, u)
		ok(t, u.Out(api.PortUla, byte(v)))
		if u.Border() != v%8 {
			t.Fatalf("Out(%02x): Border() = %d", v, u.Border())
		}
		before.numbers[borderAt], before.numbers[bitsAt] = uint64(v%8), uint64(v/8%4)
		if !slices.Equal(u.Bytes(), before.bytes()) {
			t.Fatalf("Out(%02x) changes more, or other bits", v)
		}
	}
}

// P19.2: of PortPage the bit 8 counts alone, whatever stands in the others.
func TestOutOfThePage(t *testing.T) {
	u := of(t, classic)
	for v := range 256 {
		before := partsOf(t, u)
		ok(t, u.Out(api.PortPage, byte(v)))
		want := v/8%2 == 1
		if u.Shadow() != want {
			t.Fatalf("Out(%02x): Shadow() = %t", v, u.Shadow())
		}
		before.numbers[shadowAt] = uint64(v / 8 % 2)
		if !slices.Equal(u.Bytes(), before.bytes()) {
			t.Fatalf("Out(%02x) changes more", v)
		}
	}
}

var otherClasses = []int{
	api.PortMore, api.PortSelect, api.PortData, api.PortMain, api.PortFdc,
	0, 9, -1, 257, 1<<32 + 1, math.MaxInt, math.MinInt,
}

// P19.2: of other classes nothing goes, and 255 comes.
func TestOtherClasses(t *testing.T) {
	u := made(t, api.UlaSetup{Screen: classic, Touches: []api.Touch{key(0, 0, true)}})
	u.Run(14379) // so that 0 floats
	before := u.Bytes()
	for _, class := range append([]int{api.PortNone}, otherClasses...) {
		for _, v := range []byte{0, 8, 0x1a, 255} {
			if e := u.Out(class, v); e != api.OK || !slices.Equal(u.Bytes(), before) {
				t.Errorf("Out(%d, %02x): error %d, or it changes something", class, v, e)
			}
		}
	}
	for _, class := range append([]int{api.PortPage}, otherClasses...) {
		checkIn(t, u, class, 0, 255)
		checkIn(t, u, class, 255, 255)
	}
	for _, high := range []byte{0, 1, 254, 255} {
		checkIn(t, u, api.PortNone, high, 0)
	}
	if !slices.Equal(u.Bytes(), before) {
		t.Error("In changes something")
	}
}

// P19.2: the keys and the ear as they are at the clock, touches of its time too.
func TestInOfTheUla(t *testing.T) {
	u := made(t, api.UlaSetup{Screen: least, Touches: []api.Touch{
		key(0, 0, true), key(2, 6, true), ear(3, true), key(3, 39, true), key(5, 0, false), ear(6, false),
	}})
	want := [][3]byte{
		// of the rows 0, 0 and 1, 7
		{0xbe, 0xbe, 0xbf}, {0xbe, 0xbe, 0xbf}, {0xbe, 0xbc, 0xbf}, {0xfe, 0xfc, 0xef}, {0xfe, 0xfc, 0xef},
		{0xff, 0xfd, 0xef}, {0xbf, 0xbd, 0xaf}, {0xbf, 0xbd, 0xaf},
	}
	for clock, w := range want {
		if u.Clock() != int64(clock) {
			t.Fatalf("Clock() = %d", u.Clock())
		}
		for n, high := range []byte{0xfe, 0xfc, 0x7f} {
			checkIn(t, u, api.PortUla, high, w[n])
		}
		checkIn(t, u, api.PortUla, 0xff, 0xbf|w[0])
		u.Tick()
	}
}

// P19.2
func TestPut(t *testing.T) {
	u := of(t, classic)
	var five, seven [16384]byte
	for _, place := range []int{0, 1, 6143, 6144, 6911, 6912, 16382, 16383} {
		ok(t, u.Put(5, place, byte(place+1)))
		ok(t, u.Put(7, place, byte(place+9)))
		five[place], seven[place] = byte(place+1), byte(place+9)
	}
	ok(t, u.Put(5, 1, 0))
	five[1] = 0
	p := partsOf(t, u)
	if !slices.Equal(p.five, five[:]) || !slices.Equal(p.seven, seven[:]) {
		t.Error("other bytes stand in the banks")
	}
	before := u.Bytes()
	for _, bank := range []int{5, 7} {
		for _, place := range []int{-1, 16384, 16385, 32768, 1 << 32, math.MaxInt, math.MinInt} {
			if e := u.Put(bank, place, 3); e != api.ErrArg {
				t.Errorf("Put(%d, %d): error %d", bank, place, e)
			}
		}
	}
	for _, bank := range []int{0, 1, 2, 3, 4, 6, 8, 11, 12, -1, -5, 5 + 1<<32, math.MaxInt, math.MinInt} {
		for _, place := range []int{0, 100, 16383, 16384} {
			if e := u.Put(bank, place, 3); e != api.ErrArg {
				t.Errorf("Put(%d, %d): error %d", bank, place, e)
			}
		}
	}
	if !slices.Equal(u.Bytes(), before) {
		t.Error("what is refused changes something")
	}
}

// P19.2: touches below the clock must be the same, those from it on need not.
func TestTouch(t *testing.T) {
	given := []api.Touch{key(3, 0, true), key(10, 1, true), ear(10, true), key(11, 1, false), key(20, 2, true)}
	with := func(n int, x api.Touch) []api.Touch {
		l := slices.Clone(given)
		l[n] = x
		return l
	}
	for _, x := range []struct {
		name  string
		clock int64
		l     []api.Touch
		want  api.Errno
	}{
		{"nothing, at 0", 0, nil, api.OK},
		{"nothing, at 3", 3, nil, api.OK},
		{"nothing, at 4", 4, nil, api.ErrLate},
		{"the same, at 0", 0, given, api.OK},
		{"the same, at 11", 11, given, api.OK},
		{"the same, at 100", 100, given, api.OK},
		{"the first alone, at 10", 10, given[:1], api.OK},
		{"the first alone, at 11", 11, given[:1], api.ErrLate},
		{"three, at 11", 11, given[:3], api.OK},
		{"three, at 12", 12, given[:3], api.ErrLate},
		{"without the last, at 20", 20, given[:4], api.OK},
		{"without the last, at 21", 21, given[:4], api.ErrLate},
		{"without the first, at 3", 3, given[1:], api.OK},
		{"without the first, at 4", 4, given[1:], api.ErrLate},
		{"another key, at 4", 4, with(0, key(3, 1, true)), api.ErrLate},
		{"another On, at 4", 4, with(0, key(3, 0, false)), api.ErrLate},
		{"another What, at 4", 4, with(0, ear(3, true)), api.ErrLate},
		{"another time below, at 4", 4, with(0, key(2, 0, true)), api.ErrLate},
		{"another time above, at 4", 4, with(0, key(4, 0, true)), api.ErrLate},
		{"another time below, at 3", 3, with(0, key(2, 0, true)), api.ErrLate},
		{"another time above, at 3", 3, with(0, key(5, 0, true)), api.OK},
		{"another key at the clock", 3, with(0, key(3, 1, true)), api.OK},
		{"another one later, at 11", 11, with(3, key(11, 5, true)), api.OK},
		{"another one later, at 12", 12, with(3, key(11, 5, true)), api.ErrLate},
		{"two that change places, at 11", 11, []api.Touch{given[0], given[2], given[1]}, api.ErrLate},
		{"two that change places, at 10", 10, []api.Touch{given[0], given[2], given[1]}, api.OK},
		{"one more below, at 5", 5, slices.Insert(slices.Clone(given), 1, key(4, 9, false)), api.ErrLate},
		{"one more at the clock", 4, slices.Insert(slices.Clone(given), 1, key(4, 9, false)), api.OK},
		{"one more behind all", 50, append(slices.Clone(given), key(50, 9, true)), api.OK},
		{"one more behind all, but late", 51, append(slices.Clone(given), key(50, 9, true)), api.ErrLate},
		{"one that falls", 4, falling, api.ErrArg},
		{"no key", 0, noKey, api.ErrArg},
		{"no key, late", 30, noKey, api.ErrArg},
		{"too many", 0, tooLong(), api.ErrLong},
		{"too many, late", 30, tooLong(), api.ErrLong},
		{"the most", 5, append(given[:1:1], tooLong()[:api.MaxTouches-1]...), api.OK},
	} {
		u := made(t, api.UlaSetup{Screen: least, Touches: given})
		u.Run(x.clock)
		want := partsOf(t, u)
		if x.want == api.OK {
			want.touches = touchBytes(t, x.l)
		}
		handed := slices.Clone(x.l)
		if e := u.Touch(x.l); e != x.want || !slices.Equal(u.Bytes(), want.bytes()) || !slices.Equal(x.l, handed) {
			t.Errorf("%s: error %d, want %d, or other touches", x.name, e, x.want)
		}
	}
}

// P19.2: touches that are told count from then on, and are told again and again.
func TestTouchCounts(t *testing.T) {
	u := of(t, least)
	var l []api.Touch
	for n := range int64(40) {
		l = append(l, key(n, int(n), true))
		ok(t, u.Touch(l))
		rows := byte(0xff) << (n/5 + 1) // so that the rows up to this one are asked
		up := byte(0xff) << (n%5 + 1)
		if n >= 5 {
			up = 0xe0
		}
		checkIn(t, u, api.PortUla, rows, 0xa0|up&0xbf)
		u.Tick()
	}
}

// P19.2, rule 3
func TestTouchKeepsNothing(t *testing.T) {
	l := []api.Touch{key(0, 0, true), key(0, 1, true)}
	u := of(t, least)
	ok(t, u.Touch(l[:1]))
	before := u.Bytes()
	l[0].Key = 3
	if !slices.Equal(u.Bytes(), before) {
		t.Error("it hangs on what was handed in")
	}
	checkIn(t, u, api.PortUla, 0xfe, 0xbe)
	ok(t, u.Touch(nil))
	ok(t, u.Touch([]api.Touch{key(0, 2, true)}))
	if l[0] != key(0, 3, true) || l[1] != key(0, 1, true) {
		t.Errorf("what was handed in became %v", l)
	}
}
