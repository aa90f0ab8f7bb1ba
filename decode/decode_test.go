package decode_test

import (
	"bytes"
	"math"
	"slices"
	"testing"

	"pendulum/api"
	"pendulum/decode"
)

var examples = []struct {
	b []byte
	i api.Ins
}{
	{[]byte{0x00}, api.Ins{Len: 1}},
	{[]byte{0x3e, 0x05}, api.Ins{Op: 0x3e, Imm: 5, Len: 2}},
	{[]byte{0x3e, 0xff}, api.Ins{Op: 0x3e, Imm: 255, Len: 2}},
	{[]byte{0x7e}, api.Ins{Op: 0x7e, Len: 1}},
	{[]byte{0xdd, 0x7e, 0xfe}, api.Ins{Op: 0x7e, Index: 1, Disp: -2, Len: 3}},
	{[]byte{0xfd, 0x7e, 0x7f}, api.Ins{Op: 0x7e, Index: 2, Disp: 127, Len: 3}},
	{[]byte{0xdd, 0x00}, api.Ins{Index: 1, Len: 2}},
	{[]byte{0xdd, 0x76}, api.Ins{Op: 0x76, Index: 1, Len: 2}},
	{[]byte{0xdd, 0x36, 0x80, 0x07}, api.Ins{Op: 0x36, Index: 1, Disp: -128, Imm: 7, Len: 4}},
	{[]byte{0x36, 0x80}, api.Ins{Op: 0x36, Imm: 128, Len: 2}},
	{[]byte{0xfd, 0x21, 0x34, 0x12}, api.Ins{Op: 0x21, Index: 2, Imm: 0x1234, Len: 4}},
	{[]byte{0x18, 0xfe}, api.Ins{Op: 0x18, Imm: -2, Len: 2}},
	{[]byte{0xdd, 0x18, 0x80}, api.Ins{Op: 0x18, Index: 1, Imm: -128, Len: 3}},
	{[]byte{0xd3, 0xfe}, api.Ins{Op: 0xd3, Imm: 254, Len: 2}},
	{[]byte{0xc3, 0xff, 0xff}, api.Ins{Op: 0xc3, Imm: 65535, Len: 3}},
	{[]byte{0xcb, 0x46}, api.Ins{Set: api.SetBits, Op: 0x46, Len: 2}},
	{[]byte{0xcb, 0xdd}, api.Ins{Set: api.SetBits, Op: 0xdd, Len: 2}},
	{[]byte{0xfd, 0xcb, 0x03, 0x46}, api.Ins{Set: api.SetBoth, Op: 0x46, Index: 2, Disp: 3, Len: 4}},
	{[]byte{0xdd, 0xcb, 0xdd, 0xcb}, api.Ins{Set: api.SetBoth, Op: 0xcb, Index: 1, Disp: -35, Len: 4}},
	{[]byte{0xed, 0xb0}, api.Ins{Set: api.SetMore, Op: 0xb0, Len: 2}},
	{[]byte{0xed, 0x7f}, api.Ins{Set: api.SetMore, Op: 0x7f, Len: 2}},
	{[]byte{0xed, 0x18}, api.Ins{Set: api.SetMore, Op: 0x18, Len: 2}},
	{[]byte{0xed, 0x43, 0x01, 0x02}, api.Ins{Set: api.SetMore, Op: 0x43, Imm: 513, Len: 4}},
}

// tails are bytes behind an instruction, or what may be its operands.
var tails = []byte{0x00, 0x01, 0x36, 0x7f, 0x80, 0xcb, 0xdd, 0xed, 0xfd, 0xff}

// P9.1
func TestExamples(t *testing.T) {
	for _, x := range examples {
		b, err := decode.Bytes(x.i)
		if err != api.OK || !bytes.Equal(b, x.b) {
			t.Errorf("Bytes(%+v) = % x, error %d, want % x", x.i, b, err, x.b)
		}
		for _, behind := range [][]byte{nil, {0}, {0xdd}, {0xff, 0xff, 0xff, 0xff}} {
			b := slices.Concat(x.b, behind)
			if i, err := decode.Of(b); err != api.OK || i != x.i {
				t.Errorf("Of(% x) = %+v, error %d, want %+v", b, i, err, x.i)
			}
		}
		for n := range x.b {
			if i, err := decode.Of(x.b[:n]); err != api.ErrMore || i != (api.Ins{}) {
				t.Errorf("Of(% x) = %+v, error %d", x.b[:n], i, err)
			}
		}
	}
}

// P9.1: just behind a lone prefix one of three bytes stands.
func TestLonePrefixes(t *testing.T) {
	for _, first := range []byte{0xdd, 0xfd} {
		one := api.Ins{Op: int(first), Len: 1}
		if b, err := decode.Bytes(one); err != api.OK || !bytes.Equal(b, []byte{first}) {
			t.Errorf("Bytes(%+v) = % x, error %d", one, b, err)
		}
		if i, err := decode.Of([]byte{first}); err != api.ErrMore || i != (api.Ins{}) {
			t.Errorf("Of(%02x) = %+v, error %d", first, i, err)
		}
		for second := range 256 {
			i, err := decode.Of([]byte{first, byte(second), 1, 2, 3})
			if err != api.OK || (i == one) != in(lone, second) {
				t.Errorf("Of(%02x %02x ..) = %+v, error %d", first, second, i, err)
			}
		}
	}
}

// P9.1
func TestParts(t *testing.T) {
	for op := -1024; op <= 1024; op++ {
		checkParts(t, op)
	}
	for _, op := range []int{math.MinInt, math.MinInt + 1, math.MaxInt - 1, math.MaxInt} {
		checkParts(t, op)
	}
	if x, y, z, p, q := decode.Parts(0x7e); x != 1 || y != 7 || z != 6 || p != 3 || q != 1 {
		t.Error(x, y, z, p, q)
	}
	if x, y, z, p, q := decode.Parts(-1); x != 3 || y != 7 || z != 7 || p != 3 || q != 1 {
		t.Error(x, y, z, p, q)
	}
}

func checkParts(t *testing.T, op int) {
	x, y, z, p, q := decode.Parts(op)
	whole := (op%256 + 256) % 256
	if x < 0 || x > 3 || y < 0 || y > 7 || z < 0 || z > 7 || 64*x+8*y+z != whole {
		t.Errorf("Parts(%d) has %d, %d, %d", op, x, y, z)
	}
	if q < 0 || q > 1 || 2*p+q != y {
		t.Errorf("Parts(%d) has %d, %d of %d", op, p, q, y)
	}
}

// P9.1, P9.3: all beginnings of two bytes, with what may stand behind, cut everywhere.
func TestOfAllBeginnings(t *testing.T) {
	for first := range 256 {
		for second := range 256 {
			for _, third := range tails {
				for _, fourth := range []byte{0x05, 0xed} {
					checkOf(t, []byte{byte(first), byte(second), third, fourth, fourth ^ third})
				}
			}
			if t.Failed() {
				return
			}
		}
	}
}

// P9.1, P9.3: operations that stand third or fourth.
func TestOfAllOperationsFartherOn(t *testing.T) {
	for _, first := range []byte{0xdd, 0xfd} {
		for third := range 256 {
			for fourth := range 256 {
				checkOf(t, []byte{first, 0xcb, byte(third), byte(fourth), 9})
			}
		}
		for op := range 256 {
			for third := range 256 {
				checkOf(t, []byte{first, byte(op), byte(third), 0xdd, 0xed})
			}
		}
	}
}

// checkOf looks at b as a whole and at each of its beginnings.
func checkOf(t *testing.T, b []byte) {
	t.Helper()
	for n := range len(b) + 1 {
		part := b[:n]
		want, wantErr := taken(part)
		i, err := decode.Of(part)
		if err != wantErr || i != want {
			t.Errorf("Of(% x) = %+v, error %d, want %+v, error %d", part, i, err, want, wantErr)
		}
		if err != api.OK {
			continue
		}
		again, err := decode.Bytes(i)
		if err != api.OK || decode.Check(i) != api.OK || len(again) != i.Len || !bytes.HasPrefix(part, again) {
			t.Errorf("Of(% x) = %+v, whose bytes are % x, error %d", part, i, again, err)
		}
	}
}

// P9.1, P9.3: of each that may be, whatever stands behind.
func TestOfBytesIsTheInstruction(t *testing.T) {
	for i := range eachInstruction {
		b, err := decode.Bytes(i)
		if err != api.OK || decode.Check(i) != api.OK || !bytes.Equal(b, put(i)) {
			t.Fatalf("Bytes(%+v) = % x, error %d, want % x", i, b, err, put(i))
		}
		alone := i.Len == 1 && in(indexed, i.Op)
		for _, behind := range tails {
			if alone && !in(lone, int(behind)) {
				continue
			}
			if again, err := decode.Of(append(bytes.Clone(b), behind)); err != api.OK || again != i {
				t.Fatalf("Of(% x %02x) = %+v, error %d, want %+v", b, behind, again, err, i)
			}
		}
		if again, err := decode.Of(b); !alone && (err != api.OK || again != i) {
			t.Fatalf("Of(% x) = %+v, error %d, want %+v", b, again, err, i)
		}
	}
}

// P9.1: each field of each instruction, changed alone.
func TestCheckRefusesWhatMayNotBe(t *testing.T) {
	off := []int{math.MinInt, -65536, -256, -129, -128, -3, -2, -1, 0, 1, 2, 3, 4, 5, 127, 128, 221, 237, 255, 256, 65535, 65536, math.MaxInt}
	for i := range eachOperation {
		for _, v := range off {
			for field := range 6 {
				changed := i
				*[6]*int{&changed.Set, &changed.Index, &changed.Op, &changed.Disp, &changed.Imm, &changed.Len}[field] = v
				checkCheck(t, changed)
			}
		}
		if t.Failed() {
			return
		}
	}
}

// P9.1: operands at their bounds and one beyond.
func TestOperandsBounds(t *testing.T) {
	for i := range eachOperation {
		disp, imm := bounds(i)
		for _, d := range []int{disp[0] - 1, disp[0], disp[1], disp[1] + 1} {
			for _, n := range []int{imm[0] - 1, imm[0], imm[1], imm[1] + 1} {
				for _, length := range []int{i.Len - 1, i.Len, i.Len + 1} {
					checkCheck(t, api.Ins{Set: i.Set, Index: i.Index, Op: i.Op, Disp: d, Imm: n, Len: length})
				}
			}
		}
	}
}

// P9.1: what is no operation of its set, with any length.
func TestCheckRefusesWhatIsNoOperation(t *testing.T) {
	for set := -2; set <= 6; set++ {
		for index := -2; index <= 5; index++ {
			for op := -257; op <= 513; op++ {
				for length := range 6 {
					checkCheck(t, api.Ins{Set: set, Index: index, Op: op, Len: length})
				}
			}
		}
		if t.Failed() {
			return
		}
	}
}

func checkCheck(t *testing.T, i api.Ins) {
	t.Helper()
	want := api.ErrArg
	if mayBe(i) {
		want = api.OK
	}
	if err := decode.Check(i); err != want {
		t.Errorf("Check(%+v) = %d, want %d", i, err, want)
	}
	if b, err := decode.Bytes(i); err != want || (len(b) > 0) != (err == api.OK) {
		t.Errorf("Bytes(%+v) = % x, error %d, want error %d", i, b, err, want)
	}
	if want == api.OK {
		return
	}
	if decode.Nothing(i) || decode.Twin(i) != i {
		t.Errorf("%+v may not be: Nothing %t, Twin %+v", i, decode.Nothing(i), decode.Twin(i))
	}
}

// P9.1
func TestAll(t *testing.T) {
	for _, x := range []struct {
		b []byte
		l []api.Ins
		n int
	}{
		{nil, nil, 0},
		{[]byte{}, nil, 0},
		{[]byte{0xcb}, nil, 0},
		{[]byte{0xdd}, nil, 0},
		{[]byte{0, 0xcb, 0x11, 0xc3, 1}, []api.Ins{{Len: 1}, {Set: api.SetBits, Op: 0x11, Len: 2}}, 3},
		{[]byte{0xdd, 0xfd, 0xdd}, []api.Ins{{Op: 0xdd, Len: 1}, {Op: 0xfd, Len: 1}}, 2},
		{[]byte{0xdd, 0xdd, 0x21, 5, 6}, []api.Ins{{Op: 0xdd, Len: 1}, {Op: 0x21, Index: 1, Imm: 0x605, Len: 4}}, 5},
		{[]byte{0xdd, 0xed, 0xb0, 0xed}, []api.Ins{{Op: 0xdd, Len: 1}, {Set: api.SetMore, Op: 0xb0, Len: 2}}, 3},
		{[]byte{0x76, 0xdd, 0xcb, 1}, []api.Ins{{Op: 0x76, Len: 1}}, 1},
	} {
		before := bytes.Clone(x.b)
		if l, n := decode.All(x.b); !slices.Equal(l, x.l) || n != x.n {
			t.Errorf("All(% x) = %+v, %d, want %+v, %d", x.b, l, n, x.l, x.n)
		}
		if !bytes.Equal(x.b, before) {
			t.Errorf("All changed % x to % x", before, x.b)
		}
	}
}

// P9.1: all there are, in one list of bytes, cut everywhere near its end.
func TestAllOfEachInstruction(t *testing.T) {
	var b []byte
	var want []api.Ins
	for i := range eachInstruction {
		if i.Len > 1 || !in(indexed, i.Op) {
			b, want = append(b, put(i)...), append(want, i)
		}
	}
	if l, n := decode.All(b); !slices.Equal(l, want) || n != len(b) {
		t.Fatalf("%d instructions of %d bytes, want %d of %d", len(l), n, len(want), len(b))
	}
	for cut := range 40 {
		part := b[:len(b)-cut]
		l, n := decode.All(part)
		if _, err := decode.Of(part[n:]); err != api.ErrMore || n > len(part) || !slices.Equal(l, want[:len(l)]) {
			t.Fatalf("without %d bytes: %d instructions of %d bytes", cut, len(l), n)
		}
	}
}

// P9.1, rule 3: what lies in the spare room of b is not read.
func TestSpareRoomIsNotRead(t *testing.T) {
	for _, x := range examples {
		for n := range x.b {
			if i, err := decode.Of(x.b[:n:len(x.b)]); err != api.ErrMore {
				t.Errorf("Of of %d of % x = %+v, error %d", n, x.b, i, err)
			}
			if l, m := decode.All(x.b[:n:len(x.b)]); m > n {
				t.Errorf("All of %d of % x = %+v, %d", n, x.b, l, m)
			}
		}
	}
}

// P9.1, rule 3
func TestAnswersAreNewMemory(t *testing.T) {
	for _, x := range examples {
		one, _ := decode.Bytes(x.i)
		clear(one[:cap(one)])
		if two, _ := decode.Bytes(x.i); !bytes.Equal(two, x.b) {
			t.Errorf("an answer is another's memory: % x, want % x", two, x.b)
		}
	}
	b := []byte{0x3e, 5, 0x3e, 6}
	one, _ := decode.All(b)
	clear(one[:cap(one)])
	if two, _ := decode.All(b); len(two) != 2 || two[0].Imm != 5 || two[1].Imm != 6 {
		t.Errorf("an answer is another's memory: %+v", two)
	}
}

func FuzzOf(f *testing.F) {
	for _, x := range examples {
		f.Add(x.b)
	}
	f.Fuzz(func(t *testing.T, b []byte) {
		checkOf(t, b[:min(len(b), 6)])
		l, n := decode.All(b)
		var again []byte
		for _, i := range l {
			p, _ := decode.Bytes(i)
			again = append(again, p...)
		}
		if !bytes.Equal(again, b[:n]) {
			t.Fatalf("All(% x): %d bytes, which are % x", b, n, again)
		}
	})
}
