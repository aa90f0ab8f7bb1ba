package keys_test

import (
	"math"
	"slices"
	"testing"

	"pendulum/api"
	"pendulum/keys"
)

// P17.2
func TestMergeOrdersByTime(t *testing.T) {
	for _, x := range []struct {
		name       string
		a, b, want []api.Touch
	}{
		{"nothing", nil, []api.Touch{}, nil},
		{"a alone", given, nil, given},
		{"b alone", nil, given, given},
		{
			"between, and of one time",
			given,
			[]api.Touch{ear(5, 0), ear(10, 0), key(25, 3), ear(30, 0), ear(31, 0)},
			[]api.Touch{ear(5, 0), given[0], ear(10, 0), given[1], key(25, 3), given[2], ear(30, 0), ear(31, 0)},
		},
		{
			"a's are ahead of b's, both in their order",
			[]api.Touch{key(4, 9), key(4, 1), key(4, 5)},
			[]api.Touch{key(4, 8), key(4, 0), ear(4, 0)},
			[]api.Touch{key(4, 9), key(4, 1), key(4, 5), key(4, 8), key(4, 0), ear(4, 0)},
		},
		{"the same touches are there twice", given[:1], given[:1], []api.Touch{given[0], given[0]}},
		{"b is ahead", []api.Touch{key(api.MaxTime, 1)}, []api.Touch{key(0, 2)}, []api.Touch{key(0, 2), key(api.MaxTime, 1)}},
	} {
		if got, e := keys.Merge(x.a, x.b); e != api.OK || !slices.Equal(got, x.want) {
			t.Errorf("%s: %v, error %d, want %v", x.name, got, e, x.want)
		}
	}
}

// zipped puts two lists together touch by touch.
func zipped(a, b []api.Touch) []api.Touch {
	var l []api.Touch
	for len(a) > 0 || len(b) > 0 {
		if len(b) == 0 || len(a) > 0 && a[0].Time <= b[0].Time {
			l, a = append(l, a[0]), a[1:]
		} else {
			l, b = append(l, b[0]), b[1:]
		}
	}
	return l
}

// P17.2
func TestMergeOfAllPairs(t *testing.T) {
	for i, a := range lists() {
		for j, b := range lists() {
			if got, e := keys.Merge(a, b); e != api.OK || !slices.Equal(got, zipped(a, b)) {
				t.Errorf("lists %d and %d: %v, error %d", i, j, got, e)
			}
		}
	}
}

// P17.2
func TestMergeRefuses(t *testing.T) {
	full := slices.Repeat(given[:1], api.MaxTouches)
	for _, x := range []struct {
		name string
		a, b []api.Touch
		want api.Errno
	}{
		{"a may not be", mayNotBe[0], given, api.ErrArg},
		{"b may not be", given, mayNotBe[0], api.ErrArg},
		{"a is too long", tooMany(), nil, api.ErrLong},
		{"b is too long", nil, tooMany(), api.ErrLong},
		{"a's error is ahead of b's", mayNotBe[0], tooMany(), api.ErrArg},
		{"a's error is ahead of b's", tooMany(), mayNotBe[0], api.ErrLong},
		{"b's error is ahead of both being too long", full, mayNotBe[0], api.ErrArg},
		{"both are too long", full, given[:1], api.ErrLong},
		{"both are too long", given[:1], full, api.ErrLong},
		{"both are too long", full, full, api.ErrLong},
	} {
		if got, e := keys.Merge(x.a, x.b); e != x.want || len(got) != 0 {
			t.Errorf("%s: %d touches, error %d, want %d", x.name, len(got), e, x.want)
		}
	}
	for _, n := range []int{0, 1, 1000, api.MaxTouches} {
		if got, e := keys.Merge(full[:n], full[n:]); e != api.OK || !slices.Equal(got, full) {
			t.Errorf("%d touches, and the others up to the most: %d, error %d", n, len(got), e)
		}
	}
}

// P17.2
func TestPress(t *testing.T) {
	up := func(t int64, k int) api.Touch { return api.Touch{Time: t, What: api.TouchKey, Key: k} }
	for _, x := range []struct {
		from, to int64
		keys     []int
		want     []api.Touch
	}{
		{5, 9, []int{1, 3}, []api.Touch{key(5, 1), key(5, 3), up(9, 1), up(9, 3)}},
		{5, 9, []int{3, 1}, []api.Touch{key(5, 3), key(5, 1), up(9, 3), up(9, 1)}},
		{5, 5, []int{39, 0}, []api.Touch{key(5, 39), key(5, 0), up(5, 39), up(5, 0)}},
		{0, api.MaxTime, []int{7}, []api.Touch{key(0, 7), up(api.MaxTime, 7)}},
		{5, 9, []int{4, 4}, []api.Touch{key(5, 4), key(5, 4), up(9, 4), up(9, 4)}},
		{5, 9, nil, nil},
		{9, 5, nil, nil},
		{-1, math.MaxInt64, []int{}, nil},
	} {
		if got, e := keys.Press(x.from, x.to, x.keys...); e != api.OK || !slices.Equal(got, x.want) {
			t.Errorf("Press(%d, %d, %v) = %v, error %d, want %v", x.from, x.to, x.keys, got, e, x.want)
		}
	}
}

// P17.2, P17.1: what is pressed is down till it is not any more.
func TestPressedKeysAreDown(t *testing.T) {
	l, e := keys.Press(5, 9, 12, 3, 30)
	if e != api.OK {
		t.Fatal(e)
	}
	for at := range int64(12) {
		var want []int
		if at >= 5 && at < 9 {
			want = []int{3, 12, 30}
		}
		if got := keys.Down(l, at); !slices.Equal(got, want) {
			t.Errorf("Down at %d = %v, want %v", at, got, want)
		}
	}
}

// P17.2
func TestPressRefuses(t *testing.T) {
	wrong := slices.Repeat([]int{40}, api.MaxTouches/2+1)
	right := slices.Repeat([]int{39}, api.MaxTouches/2+1)
	for _, x := range []struct {
		from, to int64
		keys     []int
		want     api.Errno
	}{
		{9, 5, []int{1}, api.ErrArg},
		{9, 8, []int{1}, api.ErrArg},
		{-1, 5, []int{1}, api.ErrArg},
		{math.MinInt64, 5, []int{1}, api.ErrArg},
		{5, -1, []int{1}, api.ErrArg},
		{5, api.MaxTime + 1, []int{1}, api.ErrArg},
		{api.MaxTime + 1, api.MaxTime + 1, []int{1}, api.ErrArg},
		{5, 9, []int{40}, api.ErrArg},
		{5, 9, []int{-1}, api.ErrArg},
		{5, 9, []int{1, 2, 3, math.MaxInt}, api.ErrArg},
		{5, 9, right, api.ErrLong},
		{5, 9, wrong, api.ErrLong},
		{9, 5, right, api.ErrLong},
		{5, 9, wrong[1:], api.ErrArg},
	} {
		if got, e := keys.Press(x.from, x.to, x.keys...); e != x.want || len(got) != 0 {
			t.Errorf("Press(%d, %d, %d keys): %d touches, error %d, want %d", x.from, x.to, len(x.keys), len(got), e, x.want)
		}
	}
	if got, e := keys.Press(5, 9, right[1:]...); e != api.OK || len(got) != api.MaxTouches {
		t.Errorf("the most keys: %d touches, error %d", len(got), e)
	}
}

// P17.2, rule 3: what was handed in stays, its spare room too, and answers share nothing.
func TestListsAreNewMemory(t *testing.T) {
	whole := slices.Concat(given, mixed)
	before := slices.Clone(whole)
	pressed := []int{3, 1, 2}
	for name, put := range map[string]func() []api.Touch{
		"Merge": func() []api.Touch {
			l, _ := keys.Merge(whole[:2], whole[3:6])
			return l
		},
		"Merge with nothing": func() []api.Touch {
			l, _ := keys.Merge(whole[:2], nil)
			return l
		},
		"Merge of nothing with it": func() []api.Touch {
			l, _ := keys.Merge(nil, whole[:2])
			return l
		},
		"Merge of nothing": func() []api.Touch {
			l, _ := keys.Merge(whole[:0], whole[:0])
			return l
		},
		"Press": func() []api.Touch {
			l, _ := keys.Press(4, 8, pressed[:2]...)
			return l
		},
	} {
		one := put()
		want := slices.Clone(one)
		two := put()
		clear(two[:cap(two)])
		if !slices.Equal(one, want) {
			t.Errorf("%s: answers share memory", name)
		}
		clear(one[:cap(one)])
		if !slices.Equal(whole, before) || !slices.Equal(pressed, []int{3, 1, 2}) {
			t.Errorf("%s: what was handed in is another", name)
		}
	}
}
