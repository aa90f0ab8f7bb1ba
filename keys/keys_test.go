package keys_test

import (
	"math"
	"math/rand"
	"slices"
	"testing"

	"pendulum/api"
	"pendulum/keys"
)

// given is the chapter's list.
var given = []api.Touch{
	{Time: 10, What: api.TouchKey, Key: 2, On: true},
	{Time: 20, What: api.TouchKey, Key: 7, On: true},
	{Time: 30, What: api.TouchKey, Key: 2},
}

// mixed has the edges of keys and times, several touches at one time, keys that
// go down or up again, and the ear's among them.
var mixed = []api.Touch{
	{Time: 0, What: api.TouchKey, Key: 39, On: true},
	{Time: 0, What: api.TouchEar, On: true},
	{Time: 0, What: api.TouchKey, Key: 0, On: true},
	{Time: 3, What: api.TouchKey, Key: 0, On: true},
	{Time: 3, What: api.TouchKey, Key: 5},
	{Time: 7, What: api.TouchEar},
	{Time: 7, What: api.TouchEar, On: true},
	{Time: 7, What: api.TouchKey, Key: 0},
	{Time: 7, What: api.TouchKey, Key: 4, On: true},
	{Time: 7, What: api.TouchKey, Key: 4},
	{Time: 8, What: api.TouchEar},
	{Time: 300, What: api.TouchKey, Key: 34, On: true},
	{Time: api.MaxTime, What: api.TouchKey, Key: 39},
	{Time: api.MaxTime, What: api.TouchEar, On: true},
}

// many answers n touches, those of a seed always the same.
func many(seed int64, n int) []api.Touch {
	r := rand.New(rand.NewSource(seed))
	var l []api.Touch
	t := int64(0)
	for range n {
		t += max(0, r.Int63n(9)-4)
		x := api.Touch{Time: t, What: api.TouchKey, Key: r.Intn(40), On: r.Intn(5) > 1}
		if r.Intn(6) == 0 {
			x.What, x.Key = api.TouchEar, 0
		}
		l = append(l, x)
	}
	return l
}

func lists() [][]api.Touch {
	return [][]api.Touch{nil, {}, given, mixed, many(1, 40), many(2, 300), many(3, 300)}
}

// tooMany is the least list that is too long, and may be but for that.
func tooMany() []api.Touch { return slices.Repeat(given[:1], api.MaxTouches+1) }

func key(t int64, k int) api.Touch {
	return api.Touch{Time: t, What: api.TouchKey, Key: k, On: true}
}

func ear(t int64, k int) api.Touch {
	return api.Touch{Time: t, What: api.TouchEar, Key: k, On: true}
}

// mayNotBe has lists that are of ErrArg.
var mayNotBe = [][]api.Touch{
	{key(-1, 2)},
	{key(math.MinInt64, 2)},
	{key(api.MaxTime+1, 2)},
	{key(math.MaxInt64, 2)},
	{ear(-1, 0)},
	{ear(api.MaxTime+1, 0)},
	{key(5, -1)},
	{key(5, 40)},
	{key(5, math.MinInt)},
	{key(5, math.MaxInt)},
	{{Time: 5, What: api.TouchKey, Key: 40}},
	{ear(5, 1)},
	{ear(5, -1)},
	{ear(5, 39)},
	{{Time: 5, What: api.TouchEar, Key: 1}},
	{{}},
	{{Time: 5, Key: 2, On: true}},
	{{Time: 5, What: 3, On: true}},
	{{Time: 5, What: -1, On: true}},
	{{Time: 5, What: math.MaxInt, On: true}},
	{key(5, 2), key(4, 3)},
	{key(5, 2), ear(4, 0)},
	{ear(5, 0), key(6, 3), key(5, 4)},
	{key(api.MaxTime, 2), key(0, 3)},
	{key(5, 2), key(6, 40)},
	{key(5, 40), key(6, 2)},
	{key(5, 2), key(6, 3), {Time: 7}},
	{key(5, 2), key(6, 3), key(-1, 3)},
}

// noLists answers all that may not be, each with its error.
func noLists() map[api.Errno][][]api.Touch {
	worse := tooMany()
	worse[0].What = 7
	return map[api.Errno][][]api.Touch{
		api.ErrArg:  mayNotBe,
		api.ErrLong: {tooMany(), worse},
	}
}

var times = []int64{
	math.MinInt64, -1, 0, 1, 2, 3, 4, 6, 7, 8, 9, 10, 15, 19, 20, 21, 29, 30, 31, 100, 299, 300, 301,
	api.MaxTime - 1, api.MaxTime, api.MaxTime + 1, math.MaxInt64,
}

// board is a keyboard that is touched once after the other.
type board struct {
	down [40]bool
	ear  bool
	n    int
}

func boardAt(l []api.Touch, t int64) board {
	var k board
	for _, x := range l {
		if x.Time > t {
			break
		}
		if x.What == api.TouchEar {
			k.ear = x.On
		} else {
			k.down[x.Key] = x.On
		}
		k.n++
	}
	return k
}

// rows answers the bytes of all rows.
func (k board) rows() [8]byte {
	var rows [8]byte
	for row := range rows {
		rows[row] = 0xbf
		if k.ear {
			rows[row] = 0xff
		}
		for bit := range 5 {
			if k.down[5*row+bit] {
				rows[row] -= byte(1) << bit
			}
		}
	}
	return rows
}

func (k board) read(high byte) byte {
	b := byte(0xff)
	if !k.ear {
		b = 0xbf
	}
	for row, v := range k.rows() {
		if high/(1<<row)%2 == 0 {
			b &= v
		}
	}
	return b
}

// P17.1: the chapter's examples.
func TestByteOfTheExamples(t *testing.T) {
	for _, x := range []struct {
		t    int64
		high byte
		want byte
	}{
		{9, 0xfe, 0xbf},
		{10, 0xfe, 0xbb},
		{15, 0xfe, 0xbb},
		{29, 0xfe, 0xbb},
		{30, 0xfe, 0xbf},
		{25, 0xfc, 0xbb},
		{30, 0xfc, 0xbb},
		{19, 0xfd, 0xbf},
		{20, 0xfd, 0xbb},
		{25, 0xff, 0xbf},
		{25, 0x00, 0xbb},
		{25, 0x03, 0xbf},
	} {
		if got := keys.Byte(given, x.t, x.high); got != x.want {
			t.Errorf("Byte at %d of %x = %x, want %x", x.t, x.high, got, x.want)
		}
	}
	if got := keys.Down(given, 25); !slices.Equal(got, []int{2, 7}) {
		t.Errorf("Down at 25 = %v", got)
	}
}

// P17.1: each key is a bit of one row alone.
func TestByteOfEachKey(t *testing.T) {
	for k := range 40 {
		l := []api.Touch{key(5, k)}
		for high := range 256 {
			want := byte(0xbf)
			if high>>(k/5)&1 == 0 {
				want = 0xbf - 1<<(k%5)
			}
			if got := keys.Byte(l, 5, byte(high)); got != want {
				t.Errorf("key %d: Byte of %x = %x, want %x", k, high, got, want)
			}
		}
	}
}

// P17.1
func TestWhatStandsAtATime(t *testing.T) {
	for i, l := range lists() {
		for _, at := range times {
			k := boardAt(l, at)
			if got := keys.Until(l, at); got != k.n {
				t.Errorf("list %d: Until %d = %d, want %d", i, at, got, k.n)
			}
			if got := keys.Ear(l, at); got != k.ear {
				t.Errorf("list %d: Ear at %d = %v", i, at, got)
			}
			var down []int
			for key, is := range k.down {
				if is {
					down = append(down, key)
				}
			}
			if got := keys.Down(l, at); !slices.Equal(got, down) {
				t.Errorf("list %d: Down at %d = %v, want %v", i, at, got, down)
			}
			for high := range 256 {
				if got, want := keys.Byte(l, at, byte(high)), k.read(byte(high)); got != want {
					t.Errorf("list %d: Byte at %d of %x = %x, want %x", i, at, high, got, want)
				}
			}
		}
	}
}

// P17.1: at one time the last of several counts.
func TestTouchesOfOneTimeAreDoneInTheirOrder(t *testing.T) {
	for _, x := range []struct {
		t    int64
		ear  bool
		down []int
	}{
		{-1, false, nil},
		{0, true, []int{0, 39}},
		{3, true, []int{0, 39}},
		{7, true, []int{39}},
		{8, false, []int{39}},
		{300, false, []int{34, 39}},
		{api.MaxTime, true, []int{34}},
	} {
		if got := keys.Ear(mixed, x.t); got != x.ear {
			t.Errorf("Ear at %d = %v", x.t, got)
		}
		if got := keys.Down(mixed, x.t); !slices.Equal(got, x.down) {
			t.Errorf("Down at %d = %v, want %v", x.t, got, x.down)
		}
	}
}

// P17.1
func TestAllKeysDown(t *testing.T) {
	var l []api.Touch
	var all []int
	for k := range 40 {
		l = append(l, key(4, 39-k))
		all = append(all, k)
	}
	if got := keys.Down(l, 4); !slices.Equal(got, all) {
		t.Errorf("Down = %v", got)
	}
	for high := range 256 {
		want := byte(0xa0)
		if high == 0xff {
			want = 0xbf
		}
		if got := keys.Byte(l, 4, byte(high)); got != want {
			t.Errorf("Byte of %x = %x, want %x", high, got, want)
		}
	}
}

// P17.1
func TestCheckOfListsThatMayBe(t *testing.T) {
	long := slices.Repeat(given[:1], api.MaxTouches)
	last := slices.Repeat([]api.Touch{ear(api.MaxTime, 0)}, api.MaxTouches)
	for i, l := range append(lists(), long, last) {
		if e := keys.Check(l); e != api.OK {
			t.Errorf("list %d: error %d", i, e)
		}
	}
	if n := keys.Until(long, 10); n != api.MaxTouches {
		t.Errorf("Until = %d", n)
	}
}

// P17.1
func TestListsThatMayNotBe(t *testing.T) {
	for want, all := range noLists() {
		for i, l := range all {
			if e := keys.Check(l); e != want {
				t.Errorf("list %d: error %d, want %d", i, e, want)
			}
			for _, at := range times {
				checkEmpty(t, l, at)
			}
		}
	}
}

func checkEmpty(t *testing.T, l []api.Touch, at int64) {
	t.Helper()
	if n, d, is := keys.Until(l, at), keys.Down(l, at), keys.Ear(l, at); n != 0 || len(d) != 0 || is {
		t.Errorf("%v at %d: Until %d, Down %v, Ear %v", l[:1], at, n, d, is)
	}
	for _, high := range []byte{0, 0xfe, 0x7f, 0xff} {
		if b := keys.Byte(l, at, high); b != 0xbf {
			t.Errorf("%v at %d: Byte of %x = %x", l[:1], at, high, b)
		}
	}
}

// P17.3
func TestMoreRowsNeverSetABit(t *testing.T) {
	for i, l := range lists() {
		for _, at := range times {
			for high := range 256 {
				fewer := keys.Byte(l, at, byte(high))
				for row := range 8 {
					more := keys.Byte(l, at, byte(high)&^(1<<row))
					if more&^fewer != 0 {
						t.Errorf("list %d at %d: %x of %x, but %x with row %d", i, at, fewer, high, more, row)
					}
				}
			}
		}
	}
}

// P17.3
func TestWhatComesLaterCountsForNothing(t *testing.T) {
	for i, l := range lists() {
		for _, at := range times {
			n := keys.Until(l, at)
			var other []api.Touch
			for _, x := range l[n:] {
				other = append(other, key(x.Time, 11), ear(x.Time, 0))
			}
			for _, m := range [][]api.Touch{l[:n], slices.Concat(l[:n], other)} {
				if keys.Until(m, at) != n || keys.Ear(m, at) != keys.Ear(l, at) ||
					!slices.Equal(keys.Down(m, at), keys.Down(l, at)) || keys.Byte(m, at, 0) != keys.Byte(l, at, 0) {
					t.Errorf("list %d at %d: other touches behind it count", i, at)
				}
			}
		}
	}
}

// P17.1, rule 3
func TestDownIsNewMemory(t *testing.T) {
	l := slices.Clone(mixed)
	one := keys.Down(l, 0)
	for i := range one[:cap(one)] {
		one[:cap(one)][i] = 17
	}
	if two := keys.Down(l, 0); !slices.Equal(two, []int{0, 39}) {
		t.Errorf("an answer is another's memory: %v", two)
	}
	keys.Check(l)
	keys.Ear(l, 9)
	keys.Byte(l, 9, 0)
	keys.Until(l, 9)
	if !slices.Equal(l, mixed) {
		t.Errorf("what was handed in is another: %v", l)
	}
}
