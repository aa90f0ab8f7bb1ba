package tstate

import (
	"math"

	"pendulum/api"
	"pendulum/octet"
)

// Bytes answers the numbers of a screen, one behind the other.
func Bytes(s api.Screen) ([]byte, api.Errno) {
	if e := Check(s); e != api.OK {
		return nil, e
	}
	var b []byte
	for _, p := range fields(&s) {
		b = octet.Number(b, uint64(*p))
	}
	return b, api.OK
}

// Read answers the screen whose bytes b are.
func Read(b []byte) (api.Screen, api.Errno) {
	var s api.Screen
	r := octet.New(b)
	for _, p := range fields(&s) {
		*p = r.Count(math.MaxInt)
	}
	if r.End() != api.OK || Check(s) != api.OK {
		return api.Screen{}, api.ErrBad
	}
	return s, api.OK
}

// fields answers where the numbers of a screen are, in the order of the type.
func fields(s *api.Screen) []*int {
	return []*int{&s.Lines, &s.Columns, &s.Top, &s.Rows, &s.Left, &s.Wide, &s.Pulse}
}
