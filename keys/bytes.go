package keys

import (
	"pendulum/api"
	"pendulum/octet"
)

// Bytes answers how many touches a list has, and the numbers of each.
func Bytes(l []api.Touch) ([]byte, api.Errno) {
	if e := Check(l); e != api.OK {
		return nil, e
	}
	b := octet.Number(nil, uint64(len(l)))
	for _, x := range l {
		// octet copies what it puts to: put to b, each touch would cost all of b.
		b = append(b, numbers(x)...)
	}
	return b, api.OK
}

// Read answers the list whose bytes b are.
func Read(b []byte) ([]api.Touch, api.Errno) {
	r := octet.New(b)
	var l []api.Touch
	for range r.Count(api.MaxTouches) {
		l = append(l, touch(r))
		if r.Err() != api.OK {
			return nil, api.ErrBad
		}
	}
	if r.End() != api.OK || Check(l) != api.OK {
		return nil, api.ErrBad
	}
	return l, api.OK
}

func numbers(x api.Touch) []byte {
	on := uint64(0)
	if x.On {
		on = 1
	}
	b := octet.Number(nil, uint64(x.Time))
	b = octet.Number(b, uint64(x.What))
	b = octet.Number(b, uint64(x.Key))
	return octet.Number(b, on)
}

func touch(r *octet.Reader) api.Touch {
	var x api.Touch
	// A number too great for an int64 comes out below 0, so that Check refuses it.
	x.Time = int64(r.Number())
	x.What = r.Count(api.TouchEar)
	x.Key = r.Count(mostKey)
	x.On = r.Count(1) == 1
	return x
}
