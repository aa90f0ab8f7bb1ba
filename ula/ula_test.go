package ula_test

import (
	"math"
	"slices"
	"testing"

	"pendulum/api"
	"pendulum/ula"
)

var classic = api.Screen{Lines: 311, Columns: 228, Top: 63, Rows: 192, Left: 14, Wide: 32, Pulse: 36}

// small's picture has columns in which a border would be, were they not the
// picture's; bare has a picture without bytes, blank one without lines; odd's lines
// end in half a border; full's picture goes to the frame's end.
var (
	small = api.Screen{Lines: 18, Columns: 32, Top: 1, Rows: 16, Left: 3, Wide: 4, Pulse: 5}
	least = api.Screen{Lines: 1, Columns: 8, Left: 1, Pulse: 8}
	bare  = api.Screen{Lines: 20, Columns: 40, Top: 2, Rows: 16, Left: 8, Pulse: 1}
	blank = api.Screen{Lines: 20, Columns: 40, Top: 20, Left: 8, Wide: 8, Pulse: 1}
	full  = api.Screen{Lines: 8, Columns: 12, Rows: 8, Left: 4, Wide: 2, Pulse: 64}
	odd   = api.Screen{Lines: 9, Columns: 44, Rows: 8, Left: 11, Wide: 8, Pulse: 9}
)

var screens = []api.Screen{classic, small, least, bare, blank, full, odd}

func key(t int64, k int, on bool) api.Touch {
	return api.Touch{Time: t, What: api.TouchKey, Key: k, On: on}
}

func ear(t int64, on bool) api.Touch {
	return api.Touch{Time: t, What: api.TouchEar, On: on}
}

func made(t testing.TB, s api.UlaSetup) *ula.Ula {
	t.Helper()
	u, e := ula.New(s)
	if e != api.OK || u == nil {
		t.Fatalf("New: error %d", e)
	}
	return u
}

// of answers a chip of a screen and patches.
func of(t testing.TB, s api.Screen, l ...api.Patch) *ula.Ula {
	t.Helper()
	return made(t, api.UlaSetup{Screen: s, Patches: l})
}

func did(at, seq int64, kind, a, b int) api.Event {
	return api.Event{Time: at, Chip: api.ChipUla, Seq: seq, Kind: kind, A: a, B: b}
}

// check holds the events of a call against those that are wanted.
func check(t *testing.T, got []api.Event, want ...api.Event) {
	t.Helper()
	if !slices.Equal(got, want) {
		t.Errorf("%+v, want %+v", got, want)
	}
}

// checkIn looks at what a class reads of a port.
func checkIn(t *testing.T, u *ula.Ula, class int, high, want byte) {
	t.Helper()
	if v := u.In(class, high); v != want {
		t.Errorf("at %d: In(%d, %02x) = %02x, want %02x", u.Clock(), class, high, v, want)
	}
}

func ok(t *testing.T, e api.Errno) {
	t.Helper()
	if e != api.OK {
		t.Fatalf("error %d", e)
	}
}

// P19.1, P19.2: the chapter's examples.
func TestExamples(t *testing.T) {
	u := of(t, classic, api.Patch{Bank: 5, Bytes: []byte{255}})
	l := u.Run(14379)
	l = slices.DeleteFunc(l[len(l)-3:], func(x api.Event) bool { return x.Kind == api.EvBorder })
	last := int64(63*29 + 2) // the borders of the lines above, of the columns 0 and 8
	check(t, l, did(14378, last, api.EvPixel, 81920, 255))
	ok(t, u.Out(api.PortUla, 18))
	check(t, u.Tick(), did(14379, last+1, api.EvBeep, 0, 2), did(14379, last+2, api.EvAttr, 81920+6144, 0))
	checkIn(t, u, api.PortUla, 254, 191)
}

// tooLong is a list of touches that may be but for its length.
func tooLong() []api.Touch {
	return slices.Repeat([]api.Touch{key(5, 1, true)}, api.MaxTouches+1)
}

var (
	badScreen = api.Screen{Lines: 311, Columns: 230, Top: 63, Rows: 192, Left: 14, Wide: 32, Pulse: 36}
	falling   = []api.Touch{key(5, 1, true), key(4, 1, false)}
	noKey     = []api.Touch{key(5, 40, true)}
	beyond    = api.Patch{Bank: 7, At: 16383, Bytes: []byte{1, 2}}
)

// P19.1
func TestCheckSetup(t *testing.T) {
	for name, x := range map[string]struct {
		s    api.UlaSetup
		want api.Errno
	}{
		"nothing":               {api.UlaSetup{}, api.ErrArg},
		"a screen":              {api.UlaSetup{Screen: badScreen}, api.ErrArg},
		"touches that fall":     {api.UlaSetup{Screen: classic, Touches: falling}, api.ErrArg},
		"no key":                {api.UlaSetup{Screen: classic, Touches: noKey}, api.ErrArg},
		"too many touches":      {api.UlaSetup{Screen: classic, Touches: tooLong()}, api.ErrLong},
		"a bank":                {api.UlaSetup{Screen: classic, Patches: []api.Patch{{Bank: 12}}}, api.ErrArg},
		"a bank below":          {api.UlaSetup{Screen: classic, Patches: []api.Patch{{Bank: -1}}}, api.ErrArg},
		"a place below":         {api.UlaSetup{Screen: classic, Patches: []api.Patch{{Bank: 5, At: -1}}}, api.ErrArg},
		"the greatest place":    {api.UlaSetup{Screen: classic, Patches: []api.Patch{{Bank: 5, At: math.MaxInt}}}, api.ErrArg},
		"beyond the bank":       {api.UlaSetup{Screen: classic, Patches: []api.Patch{beyond}}, api.ErrArg},
		"a later patch":         {api.UlaSetup{Screen: classic, Patches: []api.Patch{{Bank: 5}, beyond}}, api.ErrArg},
		"one that can't count":  {api.UlaSetup{Screen: classic, Patches: []api.Patch{{Bank: 3, At: 16384, Bytes: []byte{1}}}}, api.ErrArg},
		"a screen, and touches": {api.UlaSetup{Screen: badScreen, Touches: tooLong()}, api.ErrArg},
		"touches, and a patch":  {api.UlaSetup{Screen: classic, Touches: tooLong(), Patches: []api.Patch{beyond}}, api.ErrLong},
	} {
		if e := ula.CheckSetup(x.s); e != x.want {
			t.Errorf("%s: CheckSetup: error %d, want %d", name, e, x.want)
		}
		if u, e := ula.New(x.s); u != nil || e != x.want {
			t.Errorf("%s: New: error %d, want %d", name, e, x.want)
		}
	}
	most := tooLong()[1:]
	for _, screen := range screens {
		for _, s := range []api.UlaSetup{
			{Screen: screen},
			{Screen: screen, Touches: most, Shadow: true},
			{Screen: screen, Touches: []api.Touch{}, Patches: []api.Patch{{Bank: 11, At: 16384}, {Bank: 5, At: 16383, Bytes: []byte{1}}}},
		} {
			if e := ula.CheckSetup(s); e != api.OK {
				t.Errorf("%v: CheckSetup: error %d", screen, e)
			}
			made(t, s)
		}
	}
}

// P19.1, P19.2: what a chip begins with.
func TestNew(t *testing.T) {
	for _, shadow := range []bool{false, true} {
		u := made(t, api.UlaSetup{Screen: classic, Shadow: shadow})
		if u.Clock() != 0 || u.Seq() != 0 || u.Border() != 7 || u.Shadow() != shadow {
			t.Errorf("it begins at %d, Seq %d, border %d, %t", u.Clock(), u.Seq(), u.Border(), u.Shadow())
		}
		checkIn(t, u, api.PortNone, 0, 255)
		checkIn(t, u, api.PortUla, 0, 0xbf)
		check(t, u.Tick(), did(0, 0, api.EvBorder, 0, 7))
	}
}

// P19.1: patches stand one over the other; those of other banks count for nothing.
func TestNewPatches(t *testing.T) {
	u := of(t, classic,
		api.Patch{Bank: 5, At: 100, Bytes: []byte{1, 2, 3}}, api.Patch{Bank: 5, At: 101, Bytes: []byte{9}}, api.Patch{Bank: 5, At: 16384},
		api.Patch{Bank: 7, At: 16382, Bytes: []byte{4, 5}}, api.Patch{Bank: 7, Bytes: []byte{6}},
		api.Patch{Bank: 4, Bytes: []byte{10, 10, 10}}, api.Patch{Bank: 2, At: 100, Bytes: []byte{10, 10}}, api.Patch{Bank: 8, Bytes: []byte{10}})
	var five, seven [16384]byte
	five[100], five[101], five[102] = 1, 9, 3
	seven[0], seven[16382], seven[16383] = 6, 4, 5
	if p := partsOf(t, u); !slices.Equal(p.five, five[:]) || !slices.Equal(p.seven, seven[:]) {
		t.Error("other bytes stand in the banks")
	}
}

// P19.1, rule 3: what was handed in is neither changed nor looked at later.
func TestNewKeepsNothing(t *testing.T) {
	patch := []byte{1, 2, 3, 4}
	touches := []api.Touch{key(0, 0, true), key(0, 1, true)}
	s := api.UlaSetup{Screen: classic, Touches: touches[:1], Patches: []api.Patch{{Bank: 5, Bytes: patch[:2]}}}
	u := made(t, s)
	before := u.Bytes()
	patch[0], touches[0].Key, s.Patches[0].Bank = 7, 4, 7
	if !slices.Equal(u.Bytes(), before) {
		t.Error("it hangs on what was handed in")
	}
	checkIn(t, u, api.PortUla, 0xfe, 0xbe)
	if p := partsOf(t, u); p.five[1] != 2 || p.five[2] != 0 {
		t.Errorf("a patch's spare room is read: % x", p.five[:4])
	}
	ok(t, u.Put(5, 0, 9))
	if patch[0] != 7 || patch[2] != 3 || touches[1] != key(0, 1, true) {
		t.Errorf("what was handed in became % x, %v", patch, touches)
	}
}

// P19.1: two chips share nothing.
func TestTwoChips(t *testing.T) {
	s := api.UlaSetup{Screen: classic, Touches: []api.Touch{key(0, 0, true)}}
	one, two := made(t, s), made(t, s)
	before := two.Bytes()
	ok(t, one.Put(5, 0, 1))
	ok(t, one.Put(7, 0, 1))
	ok(t, one.Out(api.PortUla, 0))
	ok(t, one.Out(api.PortPage, 8))
	ok(t, one.Touch(nil))
	one.Run(100)
	if !slices.Equal(two.Bytes(), before) {
		t.Error("two chips share something")
	}
}

// P19.2, rule 7
func TestOneThatNobodyMade(t *testing.T) {
	for _, u := range []*ula.Ula{nil, {}} {
		if l := u.Tick(); len(l) != 0 {
			t.Errorf("Tick() = %+v", l)
		}
		for _, to := range []int64{0, 100, api.MaxTime, math.MaxInt64} {
			if l := u.Run(to); len(l) != 0 {
				t.Errorf("Run(%d) = %+v", to, l)
			}
		}
		for class := -1; class < 10; class++ {
			if e := u.Out(class, 8); e != api.ErrNil {
				t.Errorf("Out: error %d", e)
			}
			checkIn(t, u, class, 0, 255)
		}
		for _, bank := range []int{4, 5, 7} {
			if e := u.Put(bank, 0, 1); e != api.ErrNil {
				t.Errorf("Put: error %d", e)
			}
		}
		for _, l := range [][]api.Touch{nil, falling, tooLong()} {
			if e := u.Touch(l); e != api.ErrNil {
				t.Errorf("Touch: error %d", e)
			}
		}
		if u.Clock() != 0 || u.Seq() != 0 || u.Border() != 0 || u.Shadow() || len(u.Bytes()) != 0 {
			t.Error("it has something")
		}
	}
}
