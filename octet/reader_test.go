package octet_test

import (
	"bytes"
	"math"
	"testing"

	"pendulum/api"
	"pendulum/octet"
)

// P1.2, P1.3
func TestReaderReadsNumbers(t *testing.T) {
	for _, n := range numbers {
		r := octet.New(n.want)
		if got := r.Number(); got != n.x || r.Left() != 0 || r.End() != api.OK {
			t.Errorf("% x: %d, error %d, want %d", n.want, got, r.Err(), n.x)
		}
	}
}

// P1.2, P1.3
func TestReaderReadsSignedNumbers(t *testing.T) {
	for _, n := range signedNumbers {
		r := octet.New(n.want)
		if got := r.Signed(); got != n.x || r.Left() != 0 || r.End() != api.OK {
			t.Errorf("% x: %d, error %d, want %d", n.want, got, r.Err(), n.x)
		}
	}
}

var badNumbers = []struct {
	b    []byte
	want api.Errno
}{
	{nil, api.ErrMore},
	{[]byte{}, api.ErrMore},
	{[]byte{0xf8}, api.ErrMore},
	{[]byte{0xf9, 9}, api.ErrMore},
	{[]byte{0xf9, 0}, api.ErrMore},
	{[]byte{0xff, 1, 2, 3, 4, 5, 6, 7}, api.ErrMore},
	{[]byte{0xff}, api.ErrMore},
	{[]byte{0xf8, 0}, api.ErrBad},
	{[]byte{0xf8, 1}, api.ErrBad},
	{[]byte{0xf8, 0xf7}, api.ErrBad},
	{[]byte{0xf9, 9, 0}, api.ErrBad},
	{[]byte{0xf9, 0xff, 0}, api.ErrBad},
	{[]byte{0xfa, 0, 1, 0}, api.ErrBad},
	{[]byte{0xff, 1, 2, 3, 4, 5, 6, 7, 0}, api.ErrBad},
	{[]byte{0xff, 0, 0, 0, 0, 0, 0, 0, 0}, api.ErrBad},
}

var readings = []struct {
	name string
	read func(r *octet.Reader) bool // whether 0 or nothing came
}{
	{"Number", func(r *octet.Reader) bool { return r.Number() == 0 }},
	{"Signed", func(r *octet.Reader) bool { return r.Signed() == 0 }},
	{"Block", func(r *octet.Reader) bool { return len(r.Block()) == 0 }},
	{"Count", func(r *octet.Reader) bool { return r.Count(math.MaxInt) == 0 }},
}

// P1.2
func TestReaderRefusesBadNumbers(t *testing.T) {
	for _, x := range badNumbers {
		for _, y := range readings {
			r := octet.New(x.b)
			if !y.read(r) || r.Err() != x.want || r.End() != x.want {
				t.Errorf("%s of % x: error %d, want %d", y.name, x.b, r.Err(), x.want)
			}
		}
	}
}

// P1.2
func TestReaderReadsBlocks(t *testing.T) {
	for _, n := range []int{0, 1, 247, 248, api.MaxBlock - 1, api.MaxBlock} {
		p := bytes.Repeat([]byte{9}, n)
		b := append(octet.Number(nil, uint64(n)), p...)
		r := octet.New(append(b, 'z'))
		if got := r.Block(); !bytes.Equal(got, p) || r.Err() != api.OK || r.Left() != 1 {
			t.Errorf("of %d bytes: %d, error %d, %d left", n, len(got), r.Err(), r.Left())
		}
	}
}

// P1.2
func TestReaderRefusesBadBlocks(t *testing.T) {
	beyond := octet.Number(nil, api.MaxBlock+1)
	for _, x := range []struct {
		b    []byte
		want api.Errno
	}{
		{[]byte{1}, api.ErrMore},
		{[]byte{3, 'a', 'b'}, api.ErrMore},
		{octet.Number(nil, api.MaxBlock), api.ErrMore},
		{beyond, api.ErrLong},
		{append(beyond, make([]byte, api.MaxBlock+1)...), api.ErrLong},
		{octet.Number(nil, math.MaxUint64), api.ErrLong},
		{octet.Number(nil, 1<<63), api.ErrLong},
	} {
		r := octet.New(x.b)
		if got := r.Block(); len(got) != 0 || r.Err() != x.want || r.End() != x.want {
			t.Errorf("%d bytes: %d came, error %d, want %d", len(x.b), len(got), r.Err(), x.want)
		}
	}
}

// P1.2
func TestReaderCounts(t *testing.T) {
	for _, x := range []struct {
		n    uint64
		most int
		want int
		err  api.Errno
	}{
		{0, 0, 0, api.OK},
		{4, 4, 4, api.OK},
		{4, 5, 4, api.OK},
		{5, 4, 0, api.ErrLong},
		{1, 0, 0, api.ErrLong},
		{0, -1, 0, api.OK},
		{1, -1, 0, api.ErrLong},
		{0, math.MinInt, 0, api.OK},
		{7, math.MinInt, 0, api.ErrLong},
		{1 << 20, 1 << 20, 1 << 20, api.OK},
		{math.MaxInt, math.MaxInt, math.MaxInt, api.OK},
		{1 << 63, math.MaxInt, 0, api.ErrLong},
		{math.MaxUint64, math.MaxInt, 0, api.ErrLong},
		{math.MaxUint64, -1, 0, api.ErrLong},
	} {
		r := octet.New(append(octet.Number(nil, x.n), 1))
		if got := r.Count(x.most); got != x.want || r.Err() != x.err || r.Left() != 1 {
			t.Errorf("Count(%d) of %d: %d, error %d, %d left", x.most, x.n, got, r.Err(), r.Left())
		}
	}
}

// P1.2
func TestReaderBehindAnErrorReadsNothing(t *testing.T) {
	for _, x := range []struct {
		name string
		fail func(r *octet.Reader)
		b    []byte
		want api.Errno
	}{
		{"bad number", func(r *octet.Reader) { r.Number() }, []byte{0xf8, 0xf7, 3, 1, 2, 3}, api.ErrBad},
		{"long block", func(r *octet.Reader) { r.Block() }, append(octet.Number(nil, api.MaxBlock+1), 1, 2, 3), api.ErrLong},
		{"short block", func(r *octet.Reader) { r.Block() }, []byte{9, 1, 2, 3}, api.ErrMore},
		{"large count", func(r *octet.Reader) { r.Count(4) }, []byte{5, 1, 2, 3}, api.ErrLong},
		{"left at the end", func(r *octet.Reader) { r.End() }, []byte{1, 2, 3}, api.ErrBad},
	} {
		r := octet.New(x.b)
		x.fail(r)
		left := r.Left()
		if left != 3 && x.name != "bad number" {
			t.Errorf("%s: %d left", x.name, left)
		}
		for _, y := range readings {
			if !y.read(r) || r.Left() != left || r.Err() != x.want {
				t.Errorf("%s, then %s: error %d, %d left of %d", x.name, y.name, r.Err(), r.Left(), left)
			}
		}
		if r.Count(-1) != 0 || r.Err() != x.want || r.End() != x.want || r.Left() != left {
			t.Errorf("%s: the first error does not stay: %d", x.name, r.Err())
		}
	}
}

// P1.2
func TestReaderEnd(t *testing.T) {
	if r := octet.New(nil); r.Left() != 0 || r.Err() != api.OK || r.End() != api.OK || r.End() != api.OK {
		t.Error("of no bytes:", r.Err())
	}
	r := octet.New([]byte{1, 2})
	if r.Left() != 2 || r.Number() != 1 || r.Left() != 1 || r.Err() != api.OK {
		t.Error("error", r.Err(), "left", r.Left())
	}
	if r.End() != api.ErrBad || r.Err() != api.ErrBad || r.Number() != 0 || r.Left() != 1 {
		t.Error("bytes left at the end:", r.Err(), r.Left())
	}
	r = octet.New([]byte{1})
	if r.Number(); r.End() != api.OK || r.Number() != 0 || r.Err() != api.ErrMore || r.End() != api.ErrMore {
		t.Error("a number behind the end:", r.Err())
	}
}

// P1.2, rule 7
func TestReaderThatNobodyMade(t *testing.T) {
	for _, r := range []*octet.Reader{nil, new(octet.Reader)} {
		for _, y := range readings {
			if !y.read(r) || r.Err() != api.ErrNil {
				t.Errorf("%s: error %d", y.name, r.Err())
			}
		}
		if r.Count(-1) != 0 || r.Left() != 0 || r.Err() != api.ErrNil || r.End() != api.ErrNil {
			t.Errorf("%d left, error %d", r.Left(), r.End())
		}
	}
}

// P1.2, rule 3: a reader keeps nothing that was handed in, and its answers are copies.
func TestReaderSharesNoMemory(t *testing.T) {
	b := []byte{2, 'a', 'b', 2, 'c', 'd', 5}
	r := octet.New(b)
	fill(b)
	one := r.Block()
	if string(one) != "ab" {
		t.Errorf("the reader looks at what was handed in: %q", one)
	}
	fill(one)
	two := r.Block()
	if string(two) != "cd" {
		t.Errorf("the reader looks at what it answered: %q", two)
	}
	fill(one)
	if string(two) != "cd" {
		t.Errorf("two blocks share memory: %q", two)
	}
	fill(two)
	if r.Number() != 5 || r.End() != api.OK {
		t.Error("the reader looks at what it answered:", r.Err())
	}
}

// P1.2
func TestReadersAreApart(t *testing.T) {
	b := []byte{1, 2}
	one, two := octet.New(b), octet.New(b)
	one.End()
	if two.Number() != 1 || two.Number() != 2 || two.End() != api.OK {
		t.Error("one reader's error is another's:", two.Err())
	}
}
