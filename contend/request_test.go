package contend_test

import (
	"math"
	"slices"
	"testing"

	"pendulum/api"
	"pendulum/contend"
	"pendulum/regs"
	"pendulum/step"
)

var (
	fetch  = api.Req{Kind: api.ReqFetch, Addr: 0x4001, T: 4}
	read   = api.Req{Kind: api.ReqRead, Addr: 0x4000, T: 3}
	write  = api.Req{Kind: api.ReqWrite, Addr: 0xffff, Value: 9, T: 3}
	inUla  = api.Req{Kind: api.ReqIn, Addr: 0xfe, T: 4}
	inOdd  = api.Req{Kind: api.ReqIn, Addr: 0x40ff, T: 4}
	outUla = api.Req{Kind: api.ReqOut, Addr: 0x7ffc, Value: 255, T: 4}
	outOdd = api.Req{Kind: api.ReqOut, Addr: 1, T: 4}
	idle1  = api.Req{Kind: api.ReqIdle, T: 1}
	idle7  = api.Req{Kind: api.ReqIdle, T: 7}
	ack    = api.Req{Kind: api.ReqAck, Addr: 0x8000, T: 7}
)

var all = []api.Req{fetch, read, write, inUla, inOdd, outUla, outOdd, idle1, idle7, ack}

var noRequests = []api.Req{
	{},
	{Kind: api.ReqFetch},
	{Kind: api.ReqFetch, T: 3},
	{Kind: api.ReqFetch, T: -4},
	{Kind: api.ReqRead, T: 4},
	{Kind: api.ReqWrite, T: 4},
	{Kind: api.ReqIn, T: 3},
	{Kind: api.ReqOut, T: 5},
	{Kind: api.ReqIdle},
	{Kind: api.ReqIdle, T: 8},
	{Kind: api.ReqIdle, Addr: 1, T: 1},
	{Kind: api.ReqAck, T: 4},
	{Kind: 8, T: 4},
	{Kind: -1, T: 4},
	{Kind: math.MaxInt, T: math.MaxInt},
}

// part is so many T-states of a request, with a wait ahead or without one.
type part struct {
	waits bool
	long  int64
}

// parts answers what a request is made of, and which of the parts' beginnings
// is its time; of a port's all four T-states stand alone.
func parts(q api.Req, slow bool) (l []part, at int) {
	long := int64(q.T)
	switch q.Kind {
	case api.ReqIdle:
		return []part{{false, long}}, 0
	case api.ReqFetch, api.ReqRead, api.ReqWrite, api.ReqAck:
		return []part{{slow, long}}, 0
	}
	switch {
	case q.Addr%2 == 0 && slow:
		return []part{{true, 1}, {true, 1}, {false, 1}, {false, 1}}, 1
	case q.Addr%2 == 0:
		return []part{{false, 1}, {true, 1}, {false, 1}, {false, 1}}, 1
	case slow:
		return []part{{true, 1}, {true, 1}, {true, 1}, {true, 1}}, 1
	}
	return []part{{false, 1}, {false, 1}, {false, 1}, {false, 1}}, 1
}

// expected answers when a request happens and ends, by a frame's waits.
func expected(waits []int, q api.Req, slow bool, t int64) (at, end int64) {
	l, which := parts(q, slow)
	for i, p := range l {
		if p.waits {
			t += int64(waits[t%int64(len(waits))])
		}
		if i == which {
			at = t
		}
		t += p.long
	}
	return at, t
}

// P16.1: the chapter's examples, and each kind's row.
func TestRequest(t *testing.T) {
	for _, x := range []struct {
		q       api.Req
		slow    bool
		t       int64
		at, end int64
	}{
		{read, true, 14377, 14383, 14386},
		{read, true, 14376, 14376, 14379},
		{read, true, 14384, 14384, 14387},
		{read, true, 14385, 14391, 14394},
		{read, false, 14377, 14377, 14380},
		{write, true, 14378, 14383, 14386},
		{write, false, 14378, 14378, 14381},
		{fetch, true, 14379, 14383, 14387},
		{fetch, false, 14379, 14379, 14383},
		{ack, true, 14380, 14383, 14390},
		{ack, false, 14380, 14380, 14387},
		{idle7, true, 14377, 14377, 14384},
		{idle7, false, 14377, 14377, 14384},
		{idle1, true, 14377, 14377, 14378},
		{inUla, false, 14376, 14383, 14386},
		{inUla, false, 14377, 14383, 14386},
		{inUla, true, 14376, 14383, 14386},
		{inUla, true, 14377, 14384, 14387},
		{inUla, true, 14384, 14391, 14394},
		{outUla, false, 14383, 14384, 14387},
		{outUla, true, 14383, 14384, 14387},
		{inOdd, false, 14377, 14378, 14381},
		{inOdd, false, 14376, 14377, 14380},
		{inOdd, true, 14376, 14383, 14392},
		{outOdd, false, 14380, 14381, 14384},
		{outOdd, true, 14377, 14384, 14393},
		{outOdd, true, 14500, 14504, 14507},
	} {
		at, end, e := contend.Request(classic, x.q, x.slow, x.t)
		if at != x.at || end != x.end || e != api.OK {
			t.Errorf("%v slow %t at %d: %d, %d, error %d, want %d, %d", x.q, x.slow, x.t, at, end, e, x.at, x.end)
		}
	}
}

// P16.1: at each T-state of a frame, and of a later one.
func TestRequestOfFrames(t *testing.T) {
	for _, s := range mayBe {
		waits := frame(s)
		n := int64(len(waits))
		for _, q := range all {
			for _, slow := range []bool{false, true} {
				for behind := range n {
					for _, from := range []int64{0, 777 * n} {
						at, end, e := contend.Request(s, q, slow, from+behind)
						wantAt, wantEnd := expected(waits, q, slow, from+behind)
						if at != wantAt || end != wantEnd || e != api.OK {
							t.Fatalf("%v Request %v slow %t at %d: %d, %d, error %d, want %d, %d", s, q, slow, from+behind, at, end, e, wantAt, wantEnd)
						}
					}
				}
			}
		}
	}
}

// P16.1: the lowest bit of a port alone counts, and no other request's Addr.
func TestRequestOfAllAddresses(t *testing.T) {
	waits := frame(classic)
	for _, kind := range []api.Req{fetch, read, write, inUla, outUla, ack} {
		for addr := range 1 << 16 {
			q := kind
			q.Addr = uint16(addr)
			for _, slow := range []bool{false, true} {
				at, end, e := contend.Request(classic, q, slow, 14376)
				wantAt, wantEnd := expected(waits, q, slow, 14376)
				if at != wantAt || end != wantEnd || e != api.OK {
					t.Fatalf("Request %v slow %t: %d, %d, error %d, want %d, %d", q, slow, at, end, e, wantAt, wantEnd)
				}
			}
		}
	}
}

// P16.1
func TestRequestRefuses(t *testing.T) {
	refused := func(s api.Screen, q api.Req, slow bool, at int64) {
		if a, b, e := contend.Request(s, q, slow, at); a != 0 || b != 0 || e != api.ErrArg {
			t.Errorf("%v Request %v slow %t at %d: %d, %d, error %d", s, q, slow, at, a, b, e)
		}
	}
	for _, slow := range []bool{false, true} {
		for _, q := range all {
			for _, s := range mayNotBe {
				refused(s, q, slow, 0)
				refused(s, q, slow, 14377)
			}
			for _, at := range append([]int64{api.MaxTime - 999, api.MaxTime, api.MaxTime + 1, math.MaxInt64}, noTimes...) {
				refused(classic, q, slow, at)
				refused(least, q, slow, at)
			}
		}
		for _, q := range noRequests {
			refused(classic, q, slow, 0)
			refused(classic, q, slow, 14377)
		}
	}
}

// P16.1
func TestRequestAtTheEdgesOfTime(t *testing.T) {
	for _, s := range mayBe {
		waits := frame(s)
		for _, q := range all {
			for _, from := range []int64{0, api.MaxTime - 1000} {
				at, end, e := contend.Request(s, q, true, from)
				wantAt, wantEnd := expected(waits, q, true, from)
				if at != wantAt || end != wantEnd || e != api.OK {
					t.Errorf("%v Request %v at %d: %d, %d, error %d, want %d, %d", s, q, from, at, end, e, wantAt, wantEnd)
				}
			}
		}
	}
}

// P16.2: what comes later ends later, or then.
func TestLaterEndsLater(t *testing.T) {
	for _, s := range mayBe {
		for _, q := range all {
			for _, slow := range []bool{false, true} {
				var before, ended int64
				for at := range 2 * int64(s.Lines*s.Columns) {
					happens, end, _ := contend.Request(s, q, slow, at)
					if happens < before || end < ended || happens < at || end <= happens {
						t.Fatalf("%v Request %v slow %t at %d: %d, %d, behind %d, %d", s, q, slow, at, happens, end, before, ended)
					}
					before, ended = happens, end
				}
			}
		}
	}
}

// P16.2: a picture without bytes lets nothing wait.
func TestNothingWaits(t *testing.T) {
	for _, s := range []api.Screen{bare, blank, least} {
		for at := range 2 * int64(s.Lines*s.Columns) {
			for _, q := range all {
				want := at
				if q.Kind == api.ReqIn || q.Kind == api.ReqOut {
					want = at + 1
				}
				got, end, e := contend.Request(s, q, true, at)
				if got != want || end != at+int64(q.T) || e != api.OK {
					t.Fatalf("%v Request %v at %d: %d, %d, error %d", s, q, at, got, end, e)
				}
			}
			if n := contend.Wait(s, at); n != 0 {
				t.Fatalf("%v Wait %d = %d", s, at, n)
			}
		}
	}
}

// P16.1
func TestRow(t *testing.T) {
	for _, x := range []struct {
		l    []api.Req
		slow []bool
		t    int64
		at   []int64
		end  int64
	}{
		{[]api.Req{fetch, read}, []bool{true, true}, 14377, []int64{14383, 14391}, 14394},
		{[]api.Req{fetch, read}, []bool{true, false}, 14377, []int64{14383, 14387}, 14390},
		{[]api.Req{fetch, read}, []bool{false, true}, 14377, []int64{14377, 14383}, 14386},
		{[]api.Req{fetch, read}, []bool{true}, 14377, []int64{14383, 14387}, 14390},
		{[]api.Req{fetch, read}, []bool{}, 14377, []int64{14377, 14381}, 14384},
		{[]api.Req{fetch, read}, nil, 14377, []int64{14377, 14381}, 14384},
		{[]api.Req{fetch, read}, []bool{true, true, true, true}, 14377, []int64{14383, 14391}, 14394},
		{[]api.Req{fetch, idle7, inUla}, []bool{true, true, false}, 14377, []int64{14383, 14387, 14399}, 14402},
		{[]api.Req{ack, write, write}, []bool{true, false, false}, 0, []int64{0, 7, 10}, 13},
		{[]api.Req{outOdd}, []bool{true}, 14377, []int64{14384}, 14393},
		{nil, nil, 14377, nil, 14377},
		{[]api.Req{}, []bool{true}, 0, nil, 0},
		{[]api.Req{idle1}, nil, api.MaxTime - 1000, []int64{api.MaxTime - 1000}, api.MaxTime - 999},
		{[]api.Req{idle1, idle7}, nil, api.MaxTime - 1001, []int64{api.MaxTime - 1001, api.MaxTime - 1000}, api.MaxTime - 993},
	} {
		at, end, e := contend.Row(classic, x.l, x.slow, x.t)
		if !slices.Equal(at, x.at) || end != x.end || e != api.OK {
			t.Errorf("Row %v slow %v at %d: %v, %d, error %d, want %v, %d", x.l, x.slow, x.t, at, end, e, x.at, x.end)
		}
	}
}

// P16.1: the first error, wherever it is, and nothing else.
func TestRowRefuses(t *testing.T) {
	refused := func(s api.Screen, l []api.Req, at int64) {
		if a, end, e := contend.Row(s, l, []bool{true, false, true}, at); a != nil || end != 0 || e != api.ErrArg {
			t.Errorf("%v Row %v at %d: %v, %d, error %d", s, l, at, a, end, e)
		}
	}
	for _, q := range noRequests {
		refused(classic, []api.Req{q}, 14377)
		refused(classic, []api.Req{q, fetch}, 14377)
		refused(classic, []api.Req{fetch, q}, 14377)
		refused(classic, []api.Req{fetch, read, q}, 14377)
	}
	for _, s := range mayNotBe {
		refused(s, []api.Req{fetch, read}, 14377)
	}
	for _, at := range append([]int64{api.MaxTime - 999, api.MaxTime + 1, math.MaxInt64}, noTimes...) {
		refused(classic, []api.Req{fetch}, at)
	}
	// The first one may begin there, what comes behind it may not.
	refused(classic, []api.Req{fetch, read}, api.MaxTime-1000)
	refused(classic, []api.Req{idle1, idle1, idle1}, api.MaxTime-1001)
	refused(classic, []api.Req{idle1, {}}, api.MaxTime-1000)
}

// P16.1: rows of some instructions, and of an interrupt, as step tells them, at
// each T-state of a frame.
func TestRowOfInstructions(t *testing.T) {
	for _, s := range []api.Screen{classic, small, full, last, odd, bare} {
		waits := frame(s)
		for i, l := range rows(t) {
			slow := make([]bool, len(l))
			for j := range slow {
				slow[j] = (i+j)%3 != 0
			}
			for from := range int64(len(waits)) {
				at, end, e := contend.Row(s, l, slow, from)
				clock := from
				for j, q := range l {
					when, then := expected(waits, q, slow[j], clock)
					if e != api.OK || len(at) != len(l) || at[j] != when {
						t.Fatalf("%v Row %v at %d: %v, error %d, want %d at %d", s, l, from, at, e, when, j)
					}
					clock = then
				}
				if end != clock {
					t.Fatalf("%v Row %v at %d ends at %d, want %d", s, l, from, end, clock)
				}
			}
		}
	}
}

// rows answers the rows of LDIR, INC (IX+1), OUT (C),A, INI, NOP, and of an
// interrupt, each byte behind the instruction's own being 0.
func rows(t *testing.T) [][]api.Req {
	var l [][]api.Req
	for _, b := range [][]byte{{0xed, 0xb0}, {0xdd, 0x34, 1}, {0xed, 0x79}, {0xed, 0xa2}, {0}} {
		l = append(l, rowOf(t, func(got []byte) (api.Req, bool, api.Errno) {
			q, _, done, e := step.Next(regs.Reset(), got, 0)
			return q, done, e
		}, b))
	}
	return append(l, rowOf(t, func(got []byte) (api.Req, bool, api.Errno) {
		q, _, done, e := step.Accept(regs.Reset(), got)
		return q, done, e
	}, nil))
}

func rowOf(t *testing.T, next func(got []byte) (api.Req, bool, api.Errno), b []byte) (l []api.Req) {
	var got []byte
	for {
		q, done, e := next(got)
		if e != api.OK {
			t.Fatalf("a row behind %v: error %d", got, e)
		}
		if done {
			return l
		}
		l = append(l, q)
		var v byte
		if len(got) < len(b) {
			v = b[len(got)]
		}
		got = append(got, v)
	}
}

// P16.1, rule 3: nothing handed in is changed, and no two answers share.
func TestRowLeavesWhatItIsHanded(t *testing.T) {
	l := make([]api.Req, 2, 4)
	copy(l, []api.Req{fetch, read})
	spare := l[:4]
	spare[2], spare[3] = write, ack
	slow := make([]bool, 1, 2)
	slow[0], slow[:2][1] = true, true
	first, end, e := contend.Row(classic, l, slow, 14377)
	if !slices.Equal(first, []int64{14383, 14387}) || end != 14390 || e != api.OK {
		t.Fatalf("Row: %v, %d, error %d", first, end, e)
	}
	if !slices.Equal(spare, []api.Req{fetch, read, write, ack}) || !slow[0] || !slow[:2][1] {
		t.Errorf("what was handed in is %v, %v", spare, slow[:2])
	}
	second, _, _ := contend.Row(classic, l, slow, 14377)
	clear(first[:cap(first)])
	if !slices.Equal(second, []int64{14383, 14387}) {
		t.Errorf("the second answer is %v", second)
	}
}

func FuzzRequest(f *testing.F) {
	f.Add(311, 228, 63, 192, 14, 32, 36, api.ReqRead, 0x4000, 0, 3, true, int64(14377))
	f.Add(10, 32, 1, 8, 1, 4, 5, api.ReqOut, 0xff, 9, 4, true, int64(api.MaxTime-1000))
	f.Add(1, 8, 0, 0, 1, 0, 8, api.ReqIdle, 0, 0, 7, false, int64(-1))
	f.Fuzz(func(t *testing.T, lines, columns, top, rows, left, wide, pulse, kind, addr, value, long int, slow bool, at int64) {
		s := api.Screen{Lines: lines, Columns: columns, Top: top, Rows: rows, Left: left, Wide: wide, Pulse: pulse}
		q := api.Req{Kind: kind, Addr: uint16(addr), Value: byte(value), T: long}
		if n := contend.Wait(s, at); n < 0 || n > 6 || n > 0 && contend.Wait(s, at+int64(n)) != 0 {
			t.Fatalf("%v Wait %d = %d", s, at, n)
		}
		happens, end, e := contend.Request(s, q, slow, at)
		checkRow(t, s, q, slow, at)
		if e != api.OK {
			if e != api.ErrArg || happens != 0 || end != 0 {
				t.Fatalf("%v Request %v at %d: %d, %d, error %d", s, q, at, happens, end, e)
			}
			return
		}
		wantAt, wantEnd := expected(frame(s), q, slow, at)
		if happens != wantAt || end != wantEnd || end-at-int64(q.T) > int64(contend.Most(s, q)) {
			t.Fatalf("%v Request %v slow %t at %d: %d, %d, want %d, %d", s, q, slow, at, happens, end, wantAt, wantEnd)
		}
	})
}

// checkRow holds a row of one request, twice, against Request.
func checkRow(t *testing.T, s api.Screen, q api.Req, slow bool, t0 int64) {
	first, between, e := contend.Request(s, q, slow, t0)
	second, end, behind := contend.Request(s, q, false, between)
	if e == api.OK {
		e = behind
	}
	var want []int64
	if e == api.OK {
		want = []int64{first, second}
	} else {
		end = 0
	}
	l, got, f := contend.Row(s, []api.Req{q, q}, []bool{slow}, t0)
	if !slices.Equal(l, want) || got != end || f != e {
		t.Fatalf("%v Row %v slow %t at %d: %v, %d, error %d, want %v, %d, error %d", s, q, slow, t0, l, got, f, want, end, e)
	}
}
