package contend_test

import (
	"math"
	"testing"

	"pendulum/api"
	"pendulum/contend"
)

var classic = api.Screen{Lines: 311, Columns: 228, Top: 63, Rows: 192, Left: 14, Wide: 32, Pulse: 36}

// bare has a picture without bytes, blank one without lines, least neither;
// small's and full's first wait is close to a line's beginning, full's and
// most's last one to its end; last has lines of the picture to the frame's end;
// odd's lines are no whole number of pairs of bytes.
var (
	small = api.Screen{Lines: 10, Columns: 32, Top: 1, Rows: 8, Left: 1, Wide: 4, Pulse: 5}
	least = api.Screen{Lines: 1, Columns: 8, Left: 1, Pulse: 8}
	most  = api.Screen{Lines: 400, Columns: 400, Top: 208, Rows: 192, Left: 272, Wide: 32, Pulse: 64}
	bare  = api.Screen{Lines: 20, Columns: 40, Top: 2, Rows: 16, Left: 8, Pulse: 1}
	blank = api.Screen{Lines: 20, Columns: 40, Top: 20, Left: 8, Wide: 8, Pulse: 1}
	full  = api.Screen{Lines: 8, Columns: 12, Rows: 8, Left: 4, Wide: 2, Pulse: 64}
	last  = api.Screen{Lines: 24, Columns: 48, Top: 8, Rows: 16, Left: 3, Wide: 6, Pulse: 1}
	odd   = api.Screen{Lines: 9, Columns: 44, Rows: 8, Left: 11, Wide: 8, Pulse: 9}
)

var mayBe = []api.Screen{classic, small, least, most, bare, blank, full, last, odd}

// with answers the classic screen, changed.
func with(change func(s *api.Screen)) api.Screen {
	s := classic
	change(&s)
	return s
}

var mayNotBe = []api.Screen{
	{},
	with(func(s *api.Screen) { s.Lines = 254 }),
	with(func(s *api.Screen) { s.Lines = 401 }),
	with(func(s *api.Screen) { s.Columns = 230 }),
	with(func(s *api.Screen) { s.Columns = 404 }),
	with(func(s *api.Screen) { s.Columns = -228 }),
	with(func(s *api.Screen) { s.Top = -1 }),
	with(func(s *api.Screen) { s.Top = 120 }),
	with(func(s *api.Screen) { s.Top = math.MinInt }),
	with(func(s *api.Screen) { s.Rows = 191 }),
	with(func(s *api.Screen) { s.Rows = 200 }),
	with(func(s *api.Screen) { s.Left = 0 }),
	with(func(s *api.Screen) { s.Left = 101 }),
	with(func(s *api.Screen) { s.Left = math.MinInt }),
	with(func(s *api.Screen) { s.Wide = 31 }),
	with(func(s *api.Screen) { s.Wide = 34 }),
	with(func(s *api.Screen) { s.Pulse = 0 }),
	with(func(s *api.Screen) { s.Pulse = 65 }),
}

var noTimes = []int64{math.MinInt64, -api.MaxTime, -70908, -1}

// frame answers the waits of a frame, two bytes of the picture behind two.
func frame(s api.Screen) []int {
	l := make([]int, s.Lines*s.Columns)
	for y := range s.Rows {
		from := (s.Top+y)*s.Columns + s.Left - 1
		for pair := range s.Wide / 2 {
			copy(l[from+8*pair:], []int{6, 5, 4, 3, 2, 1, 0, 0})
		}
	}
	return l
}

// P16.1: the chapter's examples, and the edges of the picture.
func TestWait(t *testing.T) {
	for _, x := range []struct {
		s    api.Screen
		t    int64
		want int
	}{
		{classic, 0, 0},
		{classic, 14364, 0},
		{classic, 14376, 0},
		{classic, 14377, 6},
		{classic, 14378, 5},
		{classic, 14379, 4},
		{classic, 14380, 3},
		{classic, 14381, 2},
		{classic, 14382, 1},
		{classic, 14383, 0},
		{classic, 14384, 0},
		{classic, 14385, 6},
		{classic, 14497, 6},
		{classic, 14502, 1},
		{classic, 14504, 0},
		{classic, 14505, 0},
		{classic, 14506, 0},
		{classic, 62*228 + 13, 0},
		{classic, 62*228 + 140, 0},
		{classic, 64*228 + 12, 0},
		{classic, 64*228 + 13, 6},
		{classic, 254*228 + 13, 6},
		{classic, 254*228 + 133, 6},
		{classic, 255*228 + 13, 0},
		{classic, 70907, 0},
		{classic, 70908 + 14377, 6},
		{classic, api.MaxTime, 3},
		{small, 31, 0},
		{small, 32, 6},
		{small, 32 + 8, 6},
		{small, 32 + 13, 1},
		{small, 32 + 16, 0},
		{small, 8 * 32, 6},
		{small, 9 * 32, 0},
		{full, 2, 0},
		{full, 3, 6},
		{full, 8, 1},
		{full, 11, 0},
		{full, 15, 6},
		{bare, 2*40 + 7, 0},
		{blank, 7, 0},
		{blank, 19*40 + 7, 0},
		{least, api.MaxTime, 0},
	} {
		if n := contend.Wait(x.s, x.t); n != x.want {
			t.Errorf("%v Wait %d = %d, want %d", x.s, x.t, n, x.want)
		}
	}
}

// P16.1, P16.2: each T-state of a frame, and of later ones.
func TestWaitOfFrames(t *testing.T) {
	for _, s := range mayBe {
		l := frame(s)
		n := int64(len(l))
		for _, from := range []int64{0, n, 1000 * n, (api.MaxTime/n - 1) * n} {
			for i, want := range l {
				at := from + int64(i)
				got := contend.Wait(s, at)
				if got != want {
					t.Fatalf("%v Wait %d = %d, want %d", s, at, got, want)
				}
				if behind := contend.Wait(s, at+int64(got)); got > 0 && behind != 0 {
					t.Fatalf("%v: behind the wait at %d there is one of %d", s, at, behind)
				}
			}
		}
	}
}

// P16.1
func TestNoWaitOfWhatMayNotBe(t *testing.T) {
	for _, s := range mayBe {
		for _, at := range append([]int64{api.MaxTime + 1, api.MaxTime + 6, 2 * api.MaxTime, math.MaxInt64}, noTimes...) {
			if n := contend.Wait(s, at); n != 0 {
				t.Errorf("%v Wait %d = %d", s, at, n)
			}
		}
		// Were they times, they would be the picture's.
		for at := range int64(s.Lines * s.Columns) {
			if n := contend.Wait(s, at-int64(s.Lines*s.Columns)); n != 0 {
				t.Fatalf("%v Wait %d = %d", s, at-int64(s.Lines*s.Columns), n)
			}
		}
		for at := range int64(1000) {
			if n := contend.Wait(s, api.MaxTime+1+at); n != 0 {
				t.Fatalf("%v Wait %d = %d", s, api.MaxTime+1+at, n)
			}
		}
	}
	for _, s := range mayNotBe {
		for _, at := range []int64{-1, 0, 14377, 14378, 14385, 30000, api.MaxTime} {
			if n := contend.Wait(s, at); n != 0 {
				t.Errorf("%v Wait %d = %d", s, at, n)
			}
		}
	}
}

// P16.1
func TestSlow(t *testing.T) {
	weights := [8]int{1, 2, 4, 8, 16, 32, 64, 128}
	for banks := range 256 {
		for bank, weight := range weights {
			if got := contend.Slow(byte(banks), bank); got != (banks/weight%2 == 1) {
				t.Fatalf("Slow(%d, %d) = %t", banks, bank, got)
			}
		}
		for _, bank := range []int{math.MinInt, -1 << 32, -64, -8, -7, -1, 8, 9, 11, 12, 15, 16, 31, 32, 63, 64, 65, 256, 1 << 32, 1<<32 + 5, math.MaxInt} {
			if contend.Slow(byte(banks), bank) {
				t.Fatalf("Slow(%d, %d)", banks, bank)
			}
		}
	}
}

// P16.1
func TestMost(t *testing.T) {
	kinds := map[int]int{
		api.ReqFetch: 6, api.ReqRead: 6, api.ReqWrite: 6, api.ReqAck: 6,
		api.ReqIn: 24, api.ReqOut: 24, api.ReqIdle: 0,
	}
	for _, q := range all {
		for _, s := range []api.Screen{classic, small, most, full, last, odd} {
			if n := contend.Most(s, q); n != kinds[q.Kind] {
				t.Errorf("Most of %v, %v is %d, want %d", s, q, n, kinds[q.Kind])
			}
		}
		for _, s := range []api.Screen{bare, blank, least, {}} {
			if n := contend.Most(s, q); n != 0 {
				t.Errorf("Most of %v, %v is %d", s, q, n)
			}
		}
	}
}

// P16.1: the kind alone counts of a request, and of a screen whether its picture
// has bytes.
func TestMostOfWhatMayNotBe(t *testing.T) {
	for _, q := range []api.Req{{}, {Kind: 8}, {Kind: -1}, {Kind: math.MaxInt}, {Kind: api.ReqFetch, T: 9}} {
		if n := contend.Most(classic, q); n != 6 {
			t.Errorf("Most of %v is %d", q, n)
		}
		if n := contend.Most(bare, q); n != 0 {
			t.Errorf("Most of %v, %v is %d", bare, q, n)
		}
	}
	for _, change := range []func(s *api.Screen){
		func(s *api.Screen) { s.Rows = -8 },
		func(s *api.Screen) { s.Wide = math.MinInt },
		func(s *api.Screen) { s.Rows, s.Wide = -8, -2 },
	} {
		if n := contend.Most(with(change), inUla); n != 0 {
			t.Errorf("Most of %v is %d", with(change), n)
		}
	}
}

// P16.1: no request ends later than Most tells.
func TestMostHolds(t *testing.T) {
	for _, s := range mayBe {
		for _, q := range all {
			bound := int64(contend.Most(s, q))
			for at := range int64(s.Lines * s.Columns) {
				_, end, e := contend.Request(s, q, true, at)
				if late := end - at - int64(q.T); e != api.OK || late < 0 || late > bound {
					t.Fatalf("%v Request %v at %d ends at %d, error %d, Most %d", s, q, at, end, e, bound)
				}
			}
		}
	}
}
