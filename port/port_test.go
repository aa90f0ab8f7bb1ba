package port_test

import (
	"math"
	"slices"
	"testing"

	"pendulum/api"
	"pendulum/port"
)

// row is one of the chapter's table, its bits from the highest to the lowest;
// a point is a bit that does not count.
type row struct {
	class         int
	bits          string
	written, read bool
}

var table = []row{
	{1, "...............0", true, true},
	{2, "01............0.", true, false},
	{3, "0001..........0.", true, false},
	{4, "11............0.", true, true},
	{5, "10............0.", true, false},
	{6, "0010..........0.", false, true},
	{7, "0011..........0.", true, true},
}

// nowhere are numbers that are no class.
var nowhere = []int{
	0, -1, -2, -7, -8, 9, 10, 15, 16, 255, 256, 257, 264, 65535, 65537,
	1 << 32, 1<<32 + 1, 1<<32 + 8, math.MaxInt, math.MinInt, math.MinInt + 1, math.MinInt + 8,
}

// has answers whether a port is one of a row.
func (r row) has(p int) bool {
	for n, sign := range r.bits {
		bit := p >> (15 - n) % 2
		if sign == '0' && bit != 0 || sign == '1' && bit != 1 {
			return false
		}
	}
	return true
}

// classes answers what the table tells of a port.
func classes(p int, counts func(row) bool) (want []int) {
	for _, r := range table {
		if counts(r) && r.has(p) {
			want = append(want, r.class)
		}
	}
	return want
}

func all(row) bool         { return true }
func isRead(r row) bool    { return r.read }
func isWritten(r row) bool { return r.written }

// first answers the first of a list, 8 of none.
func first(l []int) int {
	if len(l) == 0 {
		return 8
	}
	return l[0]
}

// P14.1
func TestOfPorts(t *testing.T) {
	for _, x := range []struct {
		port        uint16
		of, written []int
		read        int
	}{
		{0x00fe, []int{1}, []int{1}, 1},
		{0x7ffd, []int{2}, []int{2}, 8},
		{0x1ffd, []int{3}, []int{3}, 8},
		{0xfffd, []int{4}, []int{4}, 4},
		{0xbffd, []int{5}, []int{5}, 8},
		{0x2ffd, []int{6}, nil, 6},
		{0x3ffd, []int{7}, []int{7}, 7},
		{0x00ff, nil, nil, 8},
		{0x4000, []int{1, 2}, []int{1, 2}, 1},
		{0x1000, []int{1, 3}, []int{1, 3}, 1},
		{0xc000, []int{1, 4}, []int{1, 4}, 1},
		{0x8000, []int{1, 5}, []int{1, 5}, 1},
		{0x2000, []int{1, 6}, []int{1}, 1},
		{0x3000, []int{1, 7}, []int{1, 7}, 1},
		{0x0000, []int{1}, []int{1}, 1},
		{0x0001, nil, nil, 8},
		{0x0002, []int{1}, []int{1}, 1},
		{0xffff, nil, nil, 8},
		{0xfffe, []int{1}, []int{1}, 1},
		{0x4001, []int{2}, []int{2}, 8},
		{0x4003, nil, nil, 8},
		{0x7fff, nil, nil, 8},
		{0x0ffd, nil, nil, 8},
		{0x2001, []int{6}, nil, 6},
		{0x2002, []int{1}, []int{1}, 1},
	} {
		if got := port.Of(x.port); !slices.Equal(got, x.of) {
			t.Errorf("Of(%04x) = %d, want %d", x.port, got, x.of)
		}
		if got := port.Written(x.port); !slices.Equal(got, x.written) {
			t.Errorf("Written(%04x) = %d, want %d", x.port, got, x.written)
		}
		if got := port.Read(x.port); got != x.read {
			t.Errorf("Read(%04x) = %d, want %d", x.port, got, x.read)
		}
	}
}

// P14.1
func TestOfAllPorts(t *testing.T) {
	for p := range 1 << 16 {
		if got, want := port.Of(uint16(p)), classes(p, all); !slices.Equal(got, want) {
			t.Fatalf("Of(%04x) = %d, want %d", p, got, want)
		}
		if got, want := port.Written(uint16(p)), classes(p, isWritten); !slices.Equal(got, want) {
			t.Fatalf("Written(%04x) = %d, want %d", p, got, want)
		}
		if got, want := port.Read(uint16(p)), first(classes(p, isRead)); got != want {
			t.Fatalf("Read(%04x) = %d, want %d", p, got, want)
		}
	}
}

// P14.1: of 8, too, which is where nothing is read, and not where nothing is
// written.
func TestIsOfAllPorts(t *testing.T) {
	for p := range 1 << 16 {
		for _, r := range table {
			if got := port.Is(r.class, uint16(p)); got != r.has(p) {
				t.Fatalf("Is(%d, %04x) = %t", r.class, p, got)
			}
		}
		if got, want := port.Is(8, uint16(p)), len(classes(p, isRead)) == 0; got != want {
			t.Fatalf("Is(8, %04x) = %t", p, got)
		}
	}
}

// P14.1
func TestIsOfNone(t *testing.T) {
	for _, x := range []struct {
		port uint16
		want bool
	}{{0x00ff, true}, {0x7ffd, true}, {0xbffd, true}, {0x1ffd, true}, {0x2ffd, false}, {0xfffd, false}, {0x00fe, false}} {
		if got := port.Is(8, x.port); got != x.want {
			t.Errorf("Is(8, %04x) = %t", x.port, got)
		}
	}
	for _, class := range nowhere {
		for p := range 1 << 16 {
			if port.Is(class, uint16(p)) {
				t.Fatalf("Is(%d, %04x)", class, p)
			}
		}
	}
}

// P14.1: what is answered is new, its spare room too.
func TestAnswersAreNew(t *testing.T) {
	for _, call := range []func(uint16) []int{port.Of, port.Written} {
		l := call(0x4000)
		for n := range l[:cap(l)] {
			l[:cap(l)][n] = 99
		}
		if got := call(0x4000); !slices.Equal(got, []int{1, 2}) {
			t.Errorf("a later answer is %d", got)
		}
		a, b := call(0x4000), call(0x4000)
		_ = append(a, 77)
		_ = append(b, 88)
		if len(a) < cap(a) && len(b) < cap(b) && a[:3][2] == b[:3][2] {
			t.Error("two answers share their spare room")
		}
	}
}

// P14.1: the kinds are api's.
func TestClassesAreThoseOfApi(t *testing.T) {
	for class, want := range []int{
		api.PortUla - 1: 1, api.PortPage - 1: 2, api.PortMore - 1: 3, api.PortSelect - 1: 4,
		api.PortData - 1: 5, api.PortMain - 1: 6, api.PortFdc - 1: 7, api.PortNone - 1: 8,
	} {
		if class+1 != want {
			t.Errorf("class %d stands for %d", class+1, want)
		}
	}
}

func FuzzOf(f *testing.F) {
	for _, p := range []uint16{0, 0xfe, 0xff, 0x4000, 0x7ffd, 0xfffd, 0x2ffd} {
		f.Add(p, 1)
	}
	f.Fuzz(func(t *testing.T, p uint16, class int) {
		of, written, read := port.Of(p), port.Written(p), port.Read(p)
		if !slices.Equal(of, classes(int(p), all)) || !slices.Equal(written, classes(int(p), isWritten)) {
			t.Errorf("of %04x: %d, written %d", p, of, written)
		}
		want := slices.Contains(of, class) || class == api.PortNone && read == api.PortNone
		if port.Is(class, p) != want {
			t.Errorf("Is(%d, %04x) is not %t", class, p, want)
		}
		if known := class >= 1 && class <= 8; known != (port.Chip(class) != 0) || known != (port.Name(class) != "") || known != (port.Usual(class) != 0) {
			t.Errorf("%d: %d, %q, %04x", class, port.Chip(class), port.Name(class), port.Usual(class))
		}
	})
}
