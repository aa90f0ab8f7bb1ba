package decode_test

import (
	"math"
	"testing"

	"pendulum/api"
	"pendulum/decode"
)

// P9.2: of what there is, and of what there is not.
func TestNeeds(t *testing.T) {
	for set := -2; set <= 6; set++ {
		for index := -2; index <= 5; index++ {
			for op := -300; op <= 600; op++ {
				checkNeeds(t, set, index, op)
			}
			checkNeeds(t, set, index, math.MinInt)
			checkNeeds(t, set, index, math.MaxInt)
		}
	}
	for _, v := range []int{math.MinInt, -256, 256, math.MaxInt} {
		checkNeeds(t, v, 1, 0x36)
		checkNeeds(t, 0, v, 0x36)
		checkNeeds(t, 0, 1, 0x36+v)
	}
}

func checkNeeds(t *testing.T, set, index, op int) {
	t.Helper()
	disp, imm := decode.Needs(set, index, op)
	if wantDisp, wantImm := needed(set, index, op); disp != wantDisp || imm != wantImm {
		t.Errorf("Needs(%d, %d, %#x) = %t, %d, want %t, %d", set, index, op, disp, imm, wantDisp, wantImm)
	}
}

// P9.2
func TestNeedsOfSome(t *testing.T) {
	for _, x := range []struct {
		set, index, op int
		disp           bool
		imm            int
	}{
		{api.SetMain, 0, 0x36, false, 1},
		{api.SetMain, 1, 0x36, true, 1},
		{api.SetMain, 2, 0x34, true, 0},
		{api.SetMain, 1, 0x76, false, 0},
		{api.SetMain, 1, 0x26, false, 1},
		{api.SetMain, 2, 0xcd, false, 2},
		{api.SetMain, 0, 0x10, false, 1},
		{api.SetMore, 0, 0x10, false, 0},
		{api.SetMore, 0, 0x7b, false, 2},
		{api.SetMore, 1, 0x7b, false, 0},
		{api.SetBits, 0, 0x36, false, 0},
		{api.SetBits, 1, 0x36, false, 0},
		{api.SetBoth, 2, 0x00, true, 0},
		{api.SetBoth, 0, 0x00, false, 0},
		{api.SetMain, 3, 0x36, false, 0},
		{4, 1, 0x36, false, 0},
		{-1, 1, 0x36, false, 0},
		{api.SetBoth, 1, 256, false, 0},
		{api.SetBoth, 1, -1, false, 0},
	} {
		if disp, imm := decode.Needs(x.set, x.index, x.op); disp != x.disp || imm != x.imm {
			t.Errorf("Needs(%d, %d, %#x) = %t, %d", x.set, x.index, x.op, disp, imm)
		}
	}
}

// P9.2
func TestNothingAndReaches(t *testing.T) {
	for i := range eachInstruction {
		if is := decode.Nothing(i); is != (i.Set == api.SetMore && !in(doing, i.Op)) {
			t.Errorf("Nothing(%+v) = %t", i, is)
		}
		if is := decode.Reaches(i); is != (i.Set == api.SetMain && in(inMemory, i.Op)) {
			t.Errorf("Reaches(%+v) = %t", i, is)
		}
	}
}

// P9.2: no operation of a byte reaches into memory where there is none.
func TestReachesOfWhatIsNone(t *testing.T) {
	for _, i := range []api.Ins{
		{},
		{Set: 4, Op: 0x7e, Len: 1},
		{Set: -1, Op: 0x7e, Len: 1},
		{Op: 0x17e, Len: 1},
		{Op: 0x7e - 256, Len: 1},
		{Op: 0x134, Len: 1},
		{Op: math.MinInt, Len: math.MinInt},
		{Set: math.MaxInt, Index: math.MaxInt, Op: math.MaxInt},
	} {
		if decode.Reaches(i) {
			t.Errorf("Reaches(%+v)", i)
		}
	}
}

// P9.2: by its Set and its Op, whether its other fields may be or not.
func TestReachesLooksAtNothingElse(t *testing.T) {
	for i := range eachOperation {
		want := i.Set == api.SetMain && in(inMemory, i.Op)
		i.Index, i.Disp, i.Imm, i.Len = 9, -999, 99999, 0
		if is := decode.Reaches(i); is != want {
			t.Errorf("Reaches(%+v) = %t", i, is)
		}
	}
}

// twins are those of SetMore that have another; all of x 1.
var twins = map[int]int{
	0x4c: 0x44, 0x54: 0x44, 0x5c: 0x44, 0x64: 0x44, 0x6c: 0x44, 0x74: 0x44, 0x7c: 0x44,
	0x55: 0x45, 0x5d: 0x45, 0x65: 0x45, 0x6d: 0x45, 0x75: 0x45, 0x7d: 0x45,
	0x4e: 0x46, 0x66: 0x46, 0x6e: 0x46, 0x76: 0x56, 0x7e: 0x5e,
}

// P9.2
func TestTwin(t *testing.T) {
	for i := range eachInstruction {
		want := i
		if op, has := twins[i.Op]; has && i.Set == api.SetMore {
			want.Op = op
		}
		switch {
		case i.Set == api.SetMore && i.Op == 0x63:
			want = api.Ins{Op: 0x22, Imm: i.Imm, Len: 3}
		case i.Set == api.SetMore && i.Op == 0x6b:
			want = api.Ins{Op: 0x2a, Imm: i.Imm, Len: 3}
		}
		twin := decode.Twin(i)
		if twin != want {
			t.Errorf("Twin(%+v) = %+v, want %+v", i, twin, want)
		}
		if decode.Check(twin) != api.OK || decode.Twin(twin) != twin || decode.Nothing(twin) != decode.Nothing(i) {
			t.Errorf("Twin(%+v) = %+v, whose own is %+v", i, twin, decode.Twin(twin))
		}
	}
}

// P9.2
func TestNothingAndTwinOfWhatMayNotBe(t *testing.T) {
	for _, i := range []api.Ins{
		{Set: api.SetMore, Op: 0x7f, Len: 1},
		{Set: api.SetMore, Op: 0x7f, Len: 2, Imm: 1},
		{Set: api.SetMore, Op: 0x7f, Len: 2, Disp: 1},
		{Set: api.SetMore, Op: 0x00, Len: 2, Index: 1},
		{Set: api.SetMore, Op: 0x100, Len: 2},
		{Set: api.SetMore, Op: -1, Len: 2},
		{Set: api.SetMore, Op: 0x4c, Len: 3},
		{Set: api.SetMore, Op: 0x55, Len: 2, Index: 2},
		{Set: api.SetMore, Op: 0x66},
		{Set: api.SetMore, Op: 0x63, Imm: 65536, Len: 4},
		{Set: api.SetMore, Op: 0x63, Imm: -1, Len: 4},
		{Set: api.SetMore, Op: 0x6b, Imm: 9, Len: 3},
		{Set: 4, Op: 0x7f, Len: 2},
		{},
	} {
		if decode.Nothing(i) || decode.Twin(i) != i {
			t.Errorf("%+v may not be: Nothing %t, Twin %+v", i, decode.Nothing(i), decode.Twin(i))
		}
	}
}
