package step_test

import (
	"strconv"
	"strings"
	"testing"

	"pendulum/api"
	"pendulum/step"
)

// registers answers where the registers of that name are: those that are told
// by a byte, by a word, by 0 and 1.
func registers(r *api.Regs) (map[string]*byte, map[string]*uint16, map[string]*bool) {
	return map[string]*byte{"A": &r.A, "F": &r.F, "B": &r.B, "C": &r.C, "D": &r.D, "E": &r.E, "H": &r.H, "L": &r.L, "I": &r.I, "R": &r.R},
		map[string]*uint16{"IX": &r.IX, "IY": &r.IY, "SP": &r.SP, "PC": &r.PC, "WZ": &r.WZ, "AF2": &r.AF2, "BC2": &r.BC2, "DE2": &r.DE2, "HL2": &r.HL2},
		map[string]*bool{"IFF1": &r.IFF1, "IFF2": &r.IFF2, "Halt": &r.Halt, "Late": &r.Late}
}

// pairs answers where the two bytes of the pairs of that name are.
func pairs(r *api.Regs) map[string][2]*byte {
	return map[string][2]*byte{"AF": {&r.A, &r.F}, "BC": {&r.B, &r.C}, "DE": {&r.D, &r.E}, "HL": {&r.H, &r.L}}
}

func hex(s string) int {
	v, err := strconv.ParseUint(s, 16, 16)
	if err != nil {
		panic(s)
	}
	return int(v)
}

// with answers r with what a list says, such as "A=05 HL=8000 IM=1 Halt=1".
func with(r api.Regs, list string) api.Regs {
	singles, words, switches := registers(&r)
	for _, one := range strings.Fields(list) {
		name, digits, _ := strings.Cut(one, "=")
		v := hex(digits)
		if at, is := singles[name]; is {
			*at = byte(v)
		} else if at, is := words[name]; is {
			*at = uint16(v)
		} else if at, is := switches[name]; is {
			*at = v == 1
		} else if at, is := pairs(&r)[name]; is {
			*at[0], *at[1] = byte(v>>8), byte(v)
		} else if name == "IM" {
			r.IM = v
		} else {
			panic(one)
		}
	}
	return r
}

// written reads a row of requests, told by signs: f a fetch and n a read at PC,
// whose bytes are the instruction's; r8000=12 a read, w8000:12 a write, p12fe=34
// an in, o12fe:34 an out, i5 an idle one, a=ff that of an interrupt.
func written(row string, at uint16, b []byte) (asked []api.Req, got []byte) {
	for _, s := range strings.Fields(row) {
		place, v := s[1:], byte(0)
		if n := strings.IndexAny(s, "=:"); n > 0 {
			place, v = s[1:n], byte(hex(s[n+1:]))
		}
		q := api.Req{T: 3}
		switch s[0] {
		case 'f', 'n':
			q.Addr, v = at, b[0]
			at, b = at+1, b[1:]
		case 'a':
			q.Addr = at
		case 'i':
			q.T = hex(place)
		default:
			q.Addr = uint16(hex(place))
		}
		switch s[0] {
		case 'f':
			q.Kind, q.T = api.ReqFetch, 4
		case 'n', 'r':
			q.Kind = api.ReqRead
		case 'w':
			q.Kind, q.Value, v = api.ReqWrite, v, 0
		case 'p':
			q.Kind, q.T = api.ReqIn, 4
		case 'o':
			q.Kind, q.T, q.Value, v = api.ReqOut, 4, v, 0
		case 'i':
			q.Kind = api.ReqIdle
		case 'a':
			q.Kind, q.T = api.ReqAck, 7
		}
		asked, got = append(asked, q), append(got, v)
	}
	return asked, got
}

// runner is Next with its peek, or Accept.
type runner func(got []byte) (q api.Req, s api.Regs, done bool, e api.Errno)

func nextOf(r api.Regs, peek byte) runner {
	return func(got []byte) (api.Req, api.Regs, bool, api.Errno) { return step.Next(r, got, peek) }
}

func acceptOf(r api.Regs) runner {
	return func(got []byte) (api.Req, api.Regs, bool, api.Errno) { return step.Accept(r, got) }
}

// checkRow looks at what comes next behind each beginning of what came back, at
// what is answered behind all of it, and behind too much.
func checkRow(t *testing.T, name string, next runner, asked []api.Req, got []byte, after api.Regs) {
	t.Helper()
	for n, want := range asked {
		q, s, done, e := next(got[:n])
		if e != api.OK || done || q != want || s != (api.Regs{}) {
			t.Errorf("%s: behind % x %+v, %+v, %t, error %d, want %+v", name, got[:n], q, s, done, e, want)
			return
		}
		if step.Check(q) != api.OK {
			t.Errorf("%s: Check(%+v) = %d", name, q, step.Check(q))
		}
	}
	if q, s, done, e := next(got); e != api.OK || !done || q != (api.Req{}) || s != after {
		t.Errorf("%s: behind % x %+v, %t, error %d,\n%+v, want\n%+v", name, got, q, done, e, s, after)
	}
	if len(asked) > 10 {
		t.Errorf("%s: %d requests", name, len(asked))
	}
}

// checkTooLong looks at what is answered behind more than there are requests.
func checkTooLong(t *testing.T, name string, next runner, got []byte) {
	t.Helper()
	long := append([]byte{}, got...)
	for range 3 {
		long = append(long, 0)
		if q, s, done, e := next(long); e != api.ErrLong || done || q != (api.Req{}) || s != (api.Regs{}) {
			t.Errorf("%s: behind % x %+v, %+v, %t, error %d", name, long, q, s, done, e)
		}
	}
}

// refreshed is R behind so many fetches.
func refreshed(r byte, count int) byte {
	return r/128*128 + byte((int(r%128)+count)%128)
}
