package tstate_test

import (
	"math"
	"testing"

	"pendulum/api"
	"pendulum/tstate"
)

var classic = api.Screen{Lines: 311, Columns: 228, Top: 63, Rows: 192, Left: 14, Wide: 32, Pulse: 36}

// small's picture is eight lines of two bytes, its frame short enough to try all
// of it; shortest's interrupt lasts the whole frame; longest is at the upper bounds.
var (
	small    = api.Screen{Lines: 10, Columns: 16, Top: 1, Rows: 8, Left: 3, Wide: 2, Pulse: 5}
	shortest = api.Screen{Lines: 1, Columns: 8, Left: 1, Pulse: 8}
	longest  = api.Screen{Lines: 400, Columns: 400, Top: 208, Rows: 192, Left: 272, Wide: 32, Pulse: 64}
)

var mayBe = []api.Screen{
	classic, small, shortest, longest,
	{Lines: 1, Columns: 8, Top: 1, Left: 8, Pulse: 1},
	{Lines: 8, Columns: 12, Rows: 8, Left: 4, Wide: 2, Pulse: 64},
	{Lines: 400, Columns: 400, Top: 400, Left: 400, Pulse: 1},
	{Lines: 1, Columns: 64, Left: 1, Pulse: 64},
}

// with answers the classic screen, changed.
func with(change func(s *api.Screen)) api.Screen {
	s := classic
	change(&s)
	return s
}

var mayNotBe = []struct {
	name string
	s    api.Screen
}{
	{"nothing", api.Screen{}},
	{"no line", with(func(s *api.Screen) { s.Lines, s.Top, s.Rows = 0, 0, 0 })},
	{"lines below 0", with(func(s *api.Screen) { s.Lines = -1 })},
	{"the least lines", with(func(s *api.Screen) { s.Lines = math.MinInt })},
	{"401 lines", with(func(s *api.Screen) { s.Lines = 401 })},
	{"the most lines", with(func(s *api.Screen) { s.Lines = math.MaxInt })},
	{"no column", with(func(s *api.Screen) { s.Columns, s.Left, s.Wide = 0, 1, 0 })},
	{"4 columns", with(func(s *api.Screen) { s.Columns, s.Left, s.Wide = 4, 1, 0 })},
	{"404 columns", with(func(s *api.Screen) { s.Columns = 404 })},
	{"226 columns", with(func(s *api.Screen) { s.Columns = 226 })},
	{"225 columns", with(func(s *api.Screen) { s.Columns = 225 })},
	{"227 columns", with(func(s *api.Screen) { s.Columns = 227 })},
	{"columns below 0", with(func(s *api.Screen) { s.Columns = -228 })},
	{"the least columns", with(func(s *api.Screen) { s.Columns = math.MinInt })},
	{"the most columns", with(func(s *api.Screen) { s.Columns = math.MaxInt - 3 })},
	{"top below 0", with(func(s *api.Screen) { s.Top = -1 })},
	{"the least top", with(func(s *api.Screen) { s.Top = math.MinInt })},
	{"the picture a line too low", with(func(s *api.Screen) { s.Top = 120 })},
	{"no picture, a line too low", with(func(s *api.Screen) { s.Top, s.Rows = 312, 0 })},
	{"a top that wraps round", with(func(s *api.Screen) { s.Top = math.MaxInt })},
	{"a top just below that", with(func(s *api.Screen) { s.Top = math.MaxInt - 191 })},
	{"rows below 0", with(func(s *api.Screen) { s.Rows = -8 })},
	{"the least rows", with(func(s *api.Screen) { s.Rows = math.MinInt })},
	{"200 rows", with(func(s *api.Screen) { s.Rows = 200 })},
	{"188 rows", with(func(s *api.Screen) { s.Rows = 188 })},
	{"191 rows", with(func(s *api.Screen) { s.Rows = 191 })},
	{"1 row", with(func(s *api.Screen) { s.Rows = 1 })},
	{"the most rows", with(func(s *api.Screen) { s.Rows = math.MaxInt - 7 })},
	{"left 0", with(func(s *api.Screen) { s.Left = 0 })},
	{"left below 0", with(func(s *api.Screen) { s.Left = -14 })},
	{"the least left", with(func(s *api.Screen) { s.Left = math.MinInt })},
	{"the picture a column too far right", with(func(s *api.Screen) { s.Left = 101 })},
	{"no picture, a column too far right", with(func(s *api.Screen) { s.Left, s.Wide = 229, 0 })},
	{"a left that wraps round", with(func(s *api.Screen) { s.Left = math.MaxInt })},
	{"a left just below that", with(func(s *api.Screen) { s.Left = math.MaxInt - 127 })},
	{"wide below 0", with(func(s *api.Screen) { s.Wide = -2 })},
	{"the least wide", with(func(s *api.Screen) { s.Wide = math.MinInt })},
	{"wide 34", with(func(s *api.Screen) { s.Wide = 34 })},
	{"wide 31", with(func(s *api.Screen) { s.Wide = 31 })},
	{"wide 1", with(func(s *api.Screen) { s.Wide = 1 })},
	{"the most wide", with(func(s *api.Screen) { s.Wide = math.MaxInt - 1 })},
	{"a wide that wraps round", with(func(s *api.Screen) { s.Wide = 1 << 62 })},
	{"no pulse", with(func(s *api.Screen) { s.Pulse = 0 })},
	{"pulse below 0", with(func(s *api.Screen) { s.Pulse = -1 })},
	{"pulse 65", with(func(s *api.Screen) { s.Pulse = 65 })},
	{"the most pulse", with(func(s *api.Screen) { s.Pulse = math.MaxInt })},
	{"the least pulse", with(func(s *api.Screen) { s.Pulse = math.MinInt })},
	{"a pulse above the frame", api.Screen{Lines: 1, Columns: 8, Left: 1, Pulse: 9}},
	{"a pulse above a frame of two lines", api.Screen{Lines: 2, Columns: 28, Left: 1, Pulse: 57}},
}

// P2.1
func TestClassic(t *testing.T) {
	if got := tstate.Classic(); got != classic {
		t.Errorf("Classic() = %+v", got)
	}
}

// P2.1
func TestCheckAndLengthOfScreensThatMayBe(t *testing.T) {
	for _, s := range mayBe {
		want := int64(s.Lines) * int64(s.Columns)
		if e := tstate.Check(s); e != api.OK || tstate.Length(s) != want {
			t.Errorf("%+v: Check %d, Length %d", s, e, tstate.Length(s))
		}
	}
	if n := tstate.Length(classic); n != 70908 {
		t.Errorf("Length of the classic one: %d", n)
	}
}

// P2.1, P2.2
func TestScreensThatMayNotBe(t *testing.T) {
	for _, x := range mayNotBe {
		if e := tstate.Check(x.s); e != api.ErrArg || tstate.Length(x.s) != 0 {
			t.Errorf("%s: Check %d, Length %d", x.name, e, tstate.Length(x.s))
		}
		for _, at := range []int64{-1, 0, 1, 70908, api.MaxTime} {
			if p, e := tstate.Spot(x.s, at); e != api.ErrArg || p != (api.Spot{}) {
				t.Errorf("%s: Spot %d: %+v, error %d", x.name, at, p, e)
			}
			if n, ok := tstate.Next(x.s, at); n != 0 || ok {
				t.Errorf("%s: Next %d: %d, %t", x.name, at, n, ok)
			}
			if tstate.Pulse(x.s, at) || tstate.Pulses(x.s, 0, at) != 0 {
				t.Errorf("%s: there is a pulse at %d or below", x.name, at)
			}
		}
		if n, e := tstate.Time(x.s, api.Spot{}); e != api.ErrArg || n != 0 {
			t.Errorf("%s: Time %d, error %d", x.name, n, e)
		}
		if b, e := tstate.Bytes(x.s); e != api.ErrArg || len(b) != 0 {
			t.Errorf("%s: Bytes % x, error %d", x.name, b, e)
		}
	}
}

// P2.1: Check against its words, each number at and beside each of its bounds,
// all other numbers those of a screen that may be.
func TestCheckAtEachBound(t *testing.T) {
	for _, s := range mayBe {
		for i := range numbersOf(&s) {
			for n := -9; n <= 410; n++ {
				changed := s
				*numbersOf(&changed)[i] = n
				want := api.ErrArg
				if wordsHold(changed) {
					want = api.OK
				}
				if e := tstate.Check(changed); e != want {
					t.Fatalf("Check(%+v) = %d, want %d", changed, e, want)
				}
			}
		}
	}
}

// wordsHold is only right for numbers that are too small to wrap round.
func wordsHold(s api.Screen) bool {
	between := func(n, least, most, step int) bool { return n >= least && n <= most && n%step == 0 }
	return between(s.Lines, 1, 400, 1) && between(s.Columns, 8, 400, 4) && between(s.Rows, 0, 192, 8) &&
		between(s.Wide, 0, 32, 2) && between(s.Pulse, 1, 64, 1) && s.Left >= 1 && s.Top >= 0 &&
		s.Top+s.Rows <= s.Lines && s.Left+4*s.Wide <= s.Columns && s.Pulse <= s.Lines*s.Columns
}

func numbersOf(s *api.Screen) []*int {
	return []*int{&s.Lines, &s.Columns, &s.Top, &s.Rows, &s.Left, &s.Wide, &s.Pulse}
}

var spots = []struct {
	s api.Screen
	t int64
	p api.Spot
}{
	{classic, 0, api.Spot{}},
	{classic, 1, api.Spot{Column: 1}},
	{classic, 227, api.Spot{Column: 227}},
	{classic, 228, api.Spot{Line: 1}},
	{classic, 14364, api.Spot{Line: 63}},
	{classic, 70907, api.Spot{Line: 310, Column: 227}},
	{classic, 70908, api.Spot{Frame: 1}},
	{classic, 70909, api.Spot{Frame: 1, Column: 1}},
	{classic, api.MaxTime, api.Spot{Frame: 15506171, Line: 239, Column: 16}},
	{small, 159, api.Spot{Line: 9, Column: 15}},
	{small, 160, api.Spot{Frame: 1}},
	{small, api.MaxTime, api.Spot{Frame: 6871947673, Line: 6}},
	{shortest, 7, api.Spot{Column: 7}},
	{shortest, api.MaxTime - 1, api.Spot{Frame: 1<<37 - 1, Column: 7}},
	{shortest, api.MaxTime, api.Spot{Frame: 1 << 37}},
	{longest, 160000, api.Spot{Frame: 1}},
	{longest, 159999, api.Spot{Line: 399, Column: 399}},
}

// P2.1
func TestSpotAndTime(t *testing.T) {
	for _, x := range spots {
		if p, e := tstate.Spot(x.s, x.t); e != api.OK || p != x.p {
			t.Errorf("Spot %d: %+v, error %d, want %+v", x.t, p, e, x.p)
		}
		if n, e := tstate.Time(x.s, x.p); e != api.OK || n != x.t {
			t.Errorf("Time %+v: %d, error %d, want %d", x.p, n, e, x.t)
		}
	}
}

// P2.1
func TestSpotRefusesWhatIsNoTime(t *testing.T) {
	for _, s := range mayBe {
		for _, at := range []int64{-1, math.MinInt64, api.MaxTime + 1, math.MaxInt64} {
			if p, e := tstate.Spot(s, at); e != api.ErrArg || p != (api.Spot{}) {
				t.Errorf("Spot %d: %+v, error %d", at, p, e)
			}
		}
	}
}

// P2.1
func TestTimeRefusesWhatIsNoSpot(t *testing.T) {
	for _, x := range []struct {
		s api.Screen
		p api.Spot
	}{
		{classic, api.Spot{Frame: -1}},
		{classic, api.Spot{Line: -1}},
		{classic, api.Spot{Column: -1}},
		{classic, api.Spot{Frame: -1, Line: 310, Column: 227}},
		{classic, api.Spot{Frame: 1, Line: -1}},
		{classic, api.Spot{Line: 1, Column: -1}},
		{classic, api.Spot{Line: 311}},
		{classic, api.Spot{Column: 228}},
		{classic, api.Spot{Line: math.MaxInt}},
		{classic, api.Spot{Line: math.MinInt}},
		{classic, api.Spot{Column: math.MaxInt}},
		{classic, api.Spot{Column: math.MinInt}},
		{classic, api.Spot{Frame: 15506171, Line: 239, Column: 17}},
		{classic, api.Spot{Frame: 15506171, Line: 240}},
		{classic, api.Spot{Frame: 15506172}},
		{classic, api.Spot{Frame: math.MaxInt64}},
		{classic, api.Spot{Frame: math.MinInt64}},
		{classic, api.Spot{Frame: math.MaxInt64/70908 + 1}},
		{shortest, api.Spot{Frame: 1 << 37, Column: 1}},
		{shortest, api.Spot{Frame: 1 << 61}}, // its time wraps round to 0
		{shortest, api.Spot{Line: 1}},
		{shortest, api.Spot{Column: 8}},
	} {
		if n, e := tstate.Time(x.s, x.p); e != api.ErrArg || n != 0 {
			t.Errorf("Time %+v: %d, error %d", x.p, n, e)
		}
	}
}

// P2.2
func TestNext(t *testing.T) {
	last := int64(15506171 * 70908)
	for _, x := range []struct {
		s    api.Screen
		t    int64
		want int64
		ok   bool
	}{
		{classic, -1, 0, true},
		{classic, -70909, 0, true},
		{classic, math.MinInt64, 0, true},
		{classic, 0, 70908, true},
		{classic, 1, 70908, true},
		{classic, 70907, 70908, true},
		{classic, 70908, 141816, true},
		{classic, last - 1, last, true},
		{classic, last, 0, false},
		{classic, api.MaxTime - 1, 0, false},
		{classic, api.MaxTime, 0, false},
		{classic, api.MaxTime + 1, 0, false},
		{classic, math.MaxInt64, 0, false},
		{shortest, 7, 8, true},
		{shortest, api.MaxTime - 8, api.MaxTime, true},
		{shortest, api.MaxTime - 1, api.MaxTime, true},
		{shortest, api.MaxTime, 0, false},
		{shortest, math.MaxInt64, 0, false},
	} {
		if n, ok := tstate.Next(x.s, x.t); n != x.want || ok != x.ok {
			t.Errorf("Next %d: %d, %t, want %d, %t", x.t, n, ok, x.want, x.ok)
		}
	}
}

// P2.3
func TestTimeOfSpotAndSpotOfTime(t *testing.T) {
	for _, s := range mayBe {
		length := int64(s.Lines * s.Columns)
		for _, from := range []int64{0, length - 300, 7*length - 300, api.MaxTime - 600} {
			for at := max(from, 0); at <= min(from+600, api.MaxTime); at++ {
				p, e := tstate.Spot(s, at)
				if e != api.OK || p.Line < 0 || p.Line >= s.Lines || p.Column < 0 || p.Column >= s.Columns {
					t.Fatalf("Spot %d: %+v, error %d", at, p, e)
				}
				if n, e := tstate.Time(s, p); e != api.OK || n != at {
					t.Fatalf("Time %+v: %d, error %d, want %d", p, n, e, at)
				}
			}
		}
	}
}

// P2.3
func TestSpotOfTimeIsTheSpot(t *testing.T) {
	for _, s := range []api.Screen{small, shortest} {
		for _, frame := range []int64{0, 1, 1000, api.MaxTime/(int64(s.Lines)*int64(s.Columns)) - 1} {
			for line := range s.Lines {
				for column := range s.Columns {
					p := api.Spot{Frame: frame, Line: line, Column: column}
					n, e := tstate.Time(s, p)
					if again, f := tstate.Spot(s, n); e != api.OK || f != api.OK || again != p {
						t.Fatalf("Time %+v: %d, error %d, again %+v, error %d", p, n, e, again, f)
					}
				}
			}
		}
	}
}
