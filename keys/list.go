package keys

import (
	"cmp"
	"slices"

	"pendulum/api"
)

// Merge answers the touches of both lists, by rising Time.
func Merge(a, b []api.Touch) ([]api.Touch, api.Errno) {
	if e := cmp.Or(Check(a), Check(b)); e != api.OK {
		return nil, e
	}
	if len(a)+len(b) > api.MaxTouches {
		return nil, api.ErrLong
	}
	l := slices.Concat(a, b)
	// A stable one leaves a's ahead of b's of the same time.
	slices.SortStableFunc(l, func(x, y api.Touch) int { return cmp.Compare(x.Time, y.Time) })
	return l, api.OK
}

// Press answers the list in which the keys go down at from, and up at to.
func Press(from, to int64, keys ...int) ([]api.Touch, api.Errno) {
	// Asked ahead of making a list that is no use.
	if len(keys) > api.MaxTouches/2 {
		return nil, api.ErrLong
	}
	l := slices.Concat(touches(from, true, keys), touches(to, false, keys))
	if e := Check(l); e != api.OK {
		return nil, e
	}
	return l, api.OK
}

func touches(t int64, on bool, keys []int) []api.Touch {
	l := make([]api.Touch, 0, len(keys))
	for _, key := range keys {
		l = append(l, api.Touch{Time: t, What: api.TouchKey, Key: key, On: on})
	}
	return l
}
