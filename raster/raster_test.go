package raster_test

import (
	"math"
	"testing"

	"pendulum/api"
	"pendulum/raster"
)

var classic = api.Screen{Lines: 311, Columns: 228, Top: 63, Rows: 192, Left: 14, Wide: 32, Pulse: 36}

// small's picture has columns in which a border would be, were they not the
// picture's; bare has a picture without bytes, blank one without lines; most's
// and full's go to the last line's end; odd's lines end in half a border.
var (
	small = api.Screen{Lines: 10, Columns: 32, Top: 1, Rows: 8, Left: 3, Wide: 4, Pulse: 5}
	least = api.Screen{Lines: 1, Columns: 8, Left: 1, Pulse: 8}
	most  = api.Screen{Lines: 400, Columns: 400, Top: 208, Rows: 192, Left: 272, Wide: 32, Pulse: 64}
	bare  = api.Screen{Lines: 20, Columns: 40, Top: 2, Rows: 16, Left: 40, Pulse: 1}
	blank = api.Screen{Lines: 20, Columns: 40, Top: 20, Left: 8, Wide: 8, Pulse: 1}
	full  = api.Screen{Lines: 8, Columns: 12, Rows: 8, Left: 4, Wide: 2, Pulse: 64}
	odd   = api.Screen{Lines: 1, Columns: 12, Left: 12, Pulse: 1}
	right = api.Screen{Lines: 24, Columns: 44, Top: 8, Rows: 8, Left: 8, Wide: 6, Pulse: 1}
)

var mayBe = []api.Screen{classic, small, least, most, bare, blank, full, odd, right}

// with answers the classic screen, changed.
func with(change func(s *api.Screen)) api.Screen {
	s := classic
	change(&s)
	return s
}

var mayNotBe = []api.Screen{
	{},
	with(func(s *api.Screen) { s.Lines = 0 }),
	with(func(s *api.Screen) { s.Lines = 401 }),
	with(func(s *api.Screen) { s.Lines = math.MaxInt }),
	with(func(s *api.Screen) { s.Columns = 230 }),
	with(func(s *api.Screen) { s.Columns = 404 }),
	with(func(s *api.Screen) { s.Columns = -228 }),
	with(func(s *api.Screen) { s.Top = -1 }),
	with(func(s *api.Screen) { s.Top = 120 }),
	with(func(s *api.Screen) { s.Top = math.MaxInt }),
	with(func(s *api.Screen) { s.Rows = 191 }),
	with(func(s *api.Screen) { s.Rows = 200 }),
	with(func(s *api.Screen) { s.Rows = -8 }),
	with(func(s *api.Screen) { s.Left = 0 }),
	with(func(s *api.Screen) { s.Left = 101 }),
	with(func(s *api.Screen) { s.Left = math.MinInt }),
	with(func(s *api.Screen) { s.Wide = 31 }),
	with(func(s *api.Screen) { s.Wide = 34 }),
	with(func(s *api.Screen) { s.Wide = -2 }),
	with(func(s *api.Screen) { s.Pulse = 0 }),
	with(func(s *api.Screen) { s.Pulse = 65 }),
}

// frame answers what is done at each T-state of a frame, drawn byte by byte,
// then border by border outside of the picture.
func frame(s api.Screen) []api.Beam {
	l := make([]api.Beam, s.Lines*s.Columns)
	picture := make([]bool, len(l))
	for y := range s.Rows {
		from := (s.Top+y)*s.Columns + s.Left
		for c := range 4 * s.Wide {
			picture[from+c] = true
		}
		for x := range s.Wide {
			at := from + x/2*8 + x%2*2
			l[at] = api.Beam{Do: 1, X: x, Y: y}
			l[at+1] = api.Beam{Do: 2, X: x, Y: y}
		}
	}
	for line := range s.Lines {
		for column := 0; column < s.Columns; column += 8 {
			if at := line*s.Columns + column; !picture[at] {
				l[at] = api.Beam{Do: 3, X: column, Y: line}
			}
		}
	}
	return l
}

// P15.1: the chapter's examples, and the edges of the picture.
func TestAt(t *testing.T) {
	for _, x := range []struct {
		s    api.Screen
		t    int64
		want api.Beam
	}{
		{classic, 14378, api.Beam{Do: api.BeamPixel}},
		{classic, 14379, api.Beam{Do: api.BeamAttr}},
		{classic, 14380, api.Beam{Do: api.BeamPixel, X: 1}},
		{classic, 14381, api.Beam{Do: api.BeamAttr, X: 1}},
		{classic, 14382, api.Beam{}},
		{classic, 14385, api.Beam{}},
		{classic, 14386, api.Beam{Do: api.BeamPixel, X: 2}},
		{classic, 14501, api.Beam{Do: api.BeamAttr, X: 31}},
		{classic, 14505, api.Beam{}},
		{classic, 14508, api.Beam{Do: api.BeamBorder, X: 144, Y: 63}},
		{classic, 14372, api.Beam{Do: api.BeamBorder, X: 8, Y: 63}},
		{classic, 0, api.Beam{Do: api.BeamBorder}},
		{classic, 1, api.Beam{}},
		{classic, 8, api.Beam{Do: api.BeamBorder, X: 8}},
		{classic, 224, api.Beam{Do: api.BeamBorder, X: 224}},
		{classic, 228, api.Beam{Do: api.BeamBorder, Y: 1}},
		{classic, 62*228 + 16, api.Beam{Do: api.BeamBorder, X: 16, Y: 62}},
		{classic, 254*228 + 16, api.Beam{Do: api.BeamPixel, X: 1, Y: 191}},
		{classic, 255*228 + 16, api.Beam{Do: api.BeamBorder, X: 16, Y: 255}},
		{classic, 70907, api.Beam{}},
		{classic, 70908, api.Beam{Do: api.BeamBorder}},
		{classic, 70908 + 14378, api.Beam{Do: api.BeamPixel}},
		{classic, api.MaxTime, api.Beam{Do: api.BeamPixel, X: 1, Y: 176}},
		{small, 32 + 8, api.Beam{}},
		{small, 32 + 16, api.Beam{}},
		{small, 32 + 24, api.Beam{Do: api.BeamBorder, X: 24, Y: 1}},
		{least, 0, api.Beam{Do: api.BeamBorder}},
		{least, 1, api.Beam{}},
		{least, api.MaxTime, api.Beam{Do: api.BeamBorder}},
		{full, 95, api.Beam{}},
		{full, 91, api.Beam{Do: api.BeamAttr, X: 1, Y: 7}},
		{odd, 8, api.Beam{Do: api.BeamBorder, X: 8}},
		{odd, api.MaxTime, api.Beam{}},
		{right, 9*44 + 8, api.Beam{Do: api.BeamPixel, Y: 1}},
	} {
		if b, e := raster.At(x.s, x.t); e != api.OK || b != x.want {
			t.Errorf("%v At %d: %v, error %d, want %v", x.s, x.t, b, e, x.want)
		}
	}
}

// P15.1, P15.3: each T-state of a frame, and of later ones.
func TestAtOfFrames(t *testing.T) {
	for _, s := range mayBe {
		l := frame(s)
		n := int64(len(l))
		for _, from := range []int64{0, n, 1000 * n, (api.MaxTime/n - 1) * n} {
			for i, want := range l {
				if b, e := raster.At(s, from+int64(i)); e != api.OK || b != want {
					t.Fatalf("%v At %d: %v, error %d, want %v", s, from+int64(i), b, e, want)
				}
			}
		}
	}
}

// P15.1
func TestAtRefuses(t *testing.T) {
	for _, s := range mayBe {
		for _, at := range []int64{-1, -8, -int64(s.Lines * s.Columns), math.MinInt64, api.MaxTime + 1, 2 * api.MaxTime, math.MaxInt64} {
			if b, e := raster.At(s, at); e != api.ErrArg || b != (api.Beam{}) {
				t.Errorf("%v At %d: %v, error %d", s, at, b, e)
			}
		}
	}
	for _, s := range mayNotBe {
		for _, at := range []int64{0, 8, 14378, -1, api.MaxTime + 1} {
			if b, e := raster.At(s, at); e != api.ErrArg || b != (api.Beam{}) {
				t.Errorf("%v At %d: %v, error %d", s, at, b, e)
			}
		}
	}
}

// P15.2
func TestNext(t *testing.T) {
	for _, x := range []struct {
		s    api.Screen
		t    int64
		want int64
		b    api.Beam
		ok   bool
	}{
		{classic, math.MinInt64, 0, api.Beam{Do: api.BeamBorder}, true},
		{classic, -1, 0, api.Beam{Do: api.BeamBorder}, true},
		{classic, 0, 0, api.Beam{Do: api.BeamBorder}, true},
		{classic, 1, 8, api.Beam{Do: api.BeamBorder, X: 8}, true},
		{classic, 225, 228, api.Beam{Do: api.BeamBorder, Y: 1}, true},
		{classic, 14373, 14378, api.Beam{Do: api.BeamPixel}, true},
		{classic, 14379, 14379, api.Beam{Do: api.BeamAttr}, true},
		{classic, 14382, 14386, api.Beam{Do: api.BeamPixel, X: 2}, true},
		{classic, 14383, 14386, api.Beam{Do: api.BeamPixel, X: 2}, true},
		{classic, 14502, 14508, api.Beam{Do: api.BeamBorder, X: 144, Y: 63}, true},
		{classic, 70905, 70908, api.Beam{Do: api.BeamBorder}, true},
		{classic, api.MaxTime, api.MaxTime, api.Beam{Do: api.BeamPixel, X: 1, Y: 176}, true},
		{classic, api.MaxTime + 1, 0, api.Beam{}, false},
		{classic, math.MaxInt64, 0, api.Beam{}, false},
		{least, 1, 8, api.Beam{Do: api.BeamBorder}, true},
		{least, api.MaxTime - 7, api.MaxTime, api.Beam{Do: api.BeamBorder}, true},
		{odd, 9, 12, api.Beam{Do: api.BeamBorder}, true},
		{odd, api.MaxTime - 4, api.MaxTime - 4, api.Beam{Do: api.BeamBorder}, true},
		{odd, api.MaxTime - 3, 0, api.Beam{}, false},
		{odd, api.MaxTime, 0, api.Beam{}, false},
		{full, 92, 96, api.Beam{Do: api.BeamBorder}, true},
	} {
		if n, b, ok := raster.Next(x.s, x.t); n != x.want || b != x.b || ok != x.ok {
			t.Errorf("%v Next %d: %d, %v, %t, want %d, %v, %t", x.s, x.t, n, b, ok, x.want, x.b, x.ok)
		}
	}
}

// P15.2: it is the first time at which At tells of something.
func TestNextOfAllTimes(t *testing.T) {
	for _, s := range mayBe {
		l := frame(s)
		n := int64(len(l))
		for _, from := range []int64{0, 5 * n} {
			next := from + n // where the next frame's border is
			for i := len(l) - 1; i >= 0; i-- {
				if l[i].Do != 0 {
					next = from + int64(i)
				}
				got, b, ok := raster.Next(s, from+int64(i))
				if got != next || b != l[next%n] || !ok {
					t.Fatalf("%v Next %d: %d, %v, %t, want %d, %v", s, from+int64(i), got, b, ok, next, l[next%n])
				}
			}
		}
	}
}

// P15.2
func TestCount(t *testing.T) {
	for _, x := range []struct {
		s               api.Screen
		pixels, borders int
	}{
		{classic, 6144, 311*29 - 192*16},
		{small, 32, 10*4 - 8*2},
		{least, 0, 1},
		{bare, 0, 100},
		{blank, 0, 100},
		{full, 16, 8},
		{odd, 0, 2},
	} {
		if p, a, b := raster.Count(x.s); p != x.pixels || a != x.pixels || b != x.borders {
			t.Errorf("Count of %v: %d, %d, %d, want %d, %d", x.s, p, a, b, x.pixels, x.borders)
		}
	}
}

// P15.2: what Count tells is what At does.
func TestCountOfFrames(t *testing.T) {
	for _, s := range mayBe {
		var done [4]int
		for _, b := range frame(s) {
			done[b.Do]++
		}
		if p, a, b := raster.Count(s); p != done[1] || a != done[2] || b != done[3] {
			t.Errorf("Count of %v: %d, %d, %d, want %d", s, p, a, b, done[1:])
		}
	}
}

// P15.2
func TestWhen(t *testing.T) {
	for _, x := range []struct {
		s    api.Screen
		x, y int
		want int64
		ok   bool
	}{
		{classic, 0, 0, 14378, true},
		{classic, 1, 0, 14380, true},
		{classic, 2, 0, 14386, true},
		{classic, 31, 0, 14500, true},
		{classic, 1, 1, 14608, true},
		{classic, 31, 191, 254*228 + 136, true},
		{classic, 32, 0, 0, false},
		{classic, 0, 192, 0, false},
		{classic, -1, 0, 0, false},
		{classic, 0, -1, 0, false},
		{small, 3, 7, 8*32 + 13, true},
		{small, 4, 7, 0, false},
		{small, 3, 8, 0, false},
		{least, 0, 0, 0, false},
		{bare, 0, 0, 0, false},
		{blank, 0, 0, 0, false},
		{full, 1, 7, 7*12 + 6, true},
	} {
		if n, ok := raster.When(x.s, x.x, x.y); n != x.want || ok != x.ok {
			t.Errorf("When of %v, %d, %d: %d, %t, want %d", x.s, x.x, x.y, n, ok, x.want)
		}
	}
	for _, far := range beyond {
		for _, at := range [][2]int{{far, 0}, {0, far}, {far, far}} {
			if n, ok := raster.When(classic, at[0], at[1]); n != 0 || ok {
				t.Errorf("When of %d: %d, %t", at, n, ok)
			}
		}
	}
}

// P15.2
func TestNothingOfAScreenThatMayNotBe(t *testing.T) {
	for _, s := range mayNotBe {
		for _, at := range []int64{math.MinInt64, -1, 0, 14378, api.MaxTime, math.MaxInt64} {
			if n, b, ok := raster.Next(s, at); n != 0 || b != (api.Beam{}) || ok {
				t.Errorf("%v Next %d: %d, %v, %t", s, at, n, b, ok)
			}
		}
		if p, a, b := raster.Count(s); p != 0 || a != 0 || b != 0 {
			t.Errorf("Count of %v: %d, %d, %d", s, p, a, b)
		}
		for _, at := range [][2]int{{0, 0}, {1, 1}, {31, 190}, {-1, 0}} {
			if n, ok := raster.When(s, at[0], at[1]); n != 0 || ok {
				t.Errorf("When of %v, %d: %d, %t", s, at, n, ok)
			}
		}
	}
}

// P15.3
func TestEachByteIsFetchedOnceThenItsAttribute(t *testing.T) {
	for _, s := range mayBe {
		seen := map[[2]int]int64{}
		for at := range int64(s.Lines * s.Columns) {
			b, _ := raster.At(s, at)
			if b.Do != api.BeamPixel {
				continue
			}
			key := [2]int{b.X, b.Y}
			if _, twice := seen[key]; twice {
				t.Fatalf("%v: the byte %d is fetched twice", s, key)
			}
			seen[key] = at
			next, _ := raster.At(s, at+1)
			if next != (api.Beam{Do: api.BeamAttr, X: b.X, Y: b.Y}) {
				t.Fatalf("%v: behind %v stands %v", s, b, next)
			}
		}
		if len(seen) != s.Rows*s.Wide {
			t.Fatalf("%v: %d bytes are fetched", s, len(seen))
		}
		for key, at := range seen {
			if n, ok := raster.When(s, key[0], key[1]); n != at || !ok {
				t.Fatalf("%v: When of %d is %d, %t, want %d", s, key, n, ok, at)
			}
		}
	}
}

func FuzzAt(f *testing.F) {
	f.Add(311, 228, 63, 192, 14, 32, 36, int64(14378), 256)
	f.Add(10, 32, 1, 8, 3, 4, 5, int64(40), 6176)
	f.Add(1, 8, 0, 0, 1, 0, 8, int64(api.MaxTime), 6912)
	f.Fuzz(func(t *testing.T, lines, columns, top, rows, left, wide, pulse int, at int64, place int) {
		s := api.Screen{Lines: lines, Columns: columns, Top: top, Rows: rows, Left: left, Wide: wide, Pulse: pulse}
		checkAt(t, s, at)
		checkWhere(t, place)
	})
}

// checkAt holds what At, Next, When and Count tell of one time together.
func checkAt(t *testing.T, s api.Screen, at int64) {
	b, e := raster.At(s, at)
	if e != api.OK && (e != api.ErrArg || b != (api.Beam{})) {
		t.Fatalf("%v At %d: %v, error %d", s, at, b, e)
	}
	if next, c, ok := raster.Next(s, at); ok && (next < at || next == at && c != b) || !ok && b.Do != 0 {
		t.Fatalf("%v Next %d: %d, %v, %t", s, at, next, c, ok)
	}
	pixels, attrs, borders := raster.Count(s)
	if pixels != attrs || borders < 0 || e == api.OK && borders < s.Lines {
		t.Fatalf("Count of %v: %d, %d, %d", s, pixels, attrs, borders)
	}
	if b.Do == 0 || b.Do == api.BeamBorder {
		return
	}
	n, ok := raster.When(s, b.X, b.Y)
	if want := at % int64(s.Lines*s.Columns); !ok || n+int64(b.Do-api.BeamPixel) != want {
		t.Fatalf("When of %v, %v is %d, %t, want %d", s, b, n, ok, want)
	}
}

func checkWhere(t *testing.T, place int) {
	x, y, attr, ok := raster.Where(place)
	if ok != (place >= 0 && place <= 6911) {
		t.Fatalf("Where(%d): %t", place, ok)
	}
	if !ok {
		return
	}
	call := raster.Pixel
	if attr {
		call = raster.Attr
	}
	if p, ok := call(x, y); p != place || !ok {
		t.Fatalf("Where(%d) = %d, %d, %t, which stands at %d", place, x, y, attr, p)
	}
}
