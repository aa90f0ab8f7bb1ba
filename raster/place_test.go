package raster_test

import (
	"math"
	"testing"

	"pendulum/raster"
)

// owner is whose byte stands at a place.
type owner struct {
	x, y int
	attr bool
}

// beyond are numbers far off, some of them such that their low bits are a
// byte's.
var beyond = []int{
	math.MinInt, math.MinInt + 1, math.MinInt + 31, -1 << 32, -1<<32 + 5, -65536, -8192, -256, -192, -64, -32, -31, -8, -2, -1,
	1 << 16, 1<<16 + 1, 1 << 31, 1 << 32, 1<<32 + 5, math.MaxInt - 31, math.MaxInt,
}

// P15.1
func TestPlaces(t *testing.T) {
	for _, x := range []struct{ x, y, pixel, attr int }{
		{0, 0, 0, 6144},
		{1, 0, 1, 6145},
		{31, 0, 31, 6175},
		{0, 1, 256, 6144},
		{0, 7, 1792, 6144},
		{0, 8, 32, 6176},
		{0, 9, 288, 6176},
		{0, 56, 224, 6368},
		{0, 63, 2016, 6368},
		{31, 63, 2047, 6399},
		{0, 64, 2048, 6400},
		{0, 128, 4096, 6656},
		{5, 100, 3205, 6533},
		{31, 127, 4095, 6655},
		{0, 191, 6112, 6880},
		{31, 191, 6143, 6911},
	} {
		if p, ok := raster.Pixel(x.x, x.y); p != x.pixel || !ok {
			t.Errorf("Pixel(%d, %d) = %d, %t, want %d", x.x, x.y, p, ok, x.pixel)
		}
		if p, ok := raster.Attr(x.x, x.y); p != x.attr || !ok {
			t.Errorf("Attr(%d, %d) = %d, %t, want %d", x.x, x.y, p, ok, x.attr)
		}
	}
}

// P15.1
func TestPlacesOfAllBytes(t *testing.T) {
	for y := range 192 {
		for x := range 32 {
			if got, ok := raster.Pixel(x, y); got != 2048*(y/64)+256*(y%8)+32*(y/8%8)+x || !ok {
				t.Fatalf("Pixel(%d, %d) = %d, %t", x, y, got, ok)
			}
			if got, ok := raster.Attr(x, y); got != 6144+32*(y/8)+x || !ok {
				t.Fatalf("Attr(%d, %d) = %d, %t", x, y, got, ok)
			}
		}
	}
}

// P15.1
func TestNoPlaceOfWhatIsNoByte(t *testing.T) {
	refused := func(x, y int) {
		if p, ok := raster.Pixel(x, y); p != 0 || ok {
			t.Errorf("Pixel(%d, %d) = %d, %t", x, y, p, ok)
		}
		if p, ok := raster.Attr(x, y); p != 0 || ok {
			t.Errorf("Attr(%d, %d) = %d, %t", x, y, p, ok)
		}
	}
	for _, x := range append([]int{32, 33, 63, 64, 256}, beyond...) {
		for _, y := range []int{0, 1, 8, 100, 191} {
			refused(x, y)
		}
	}
	for _, y := range append([]int{192, 193, 199, 255, 256}, beyond...) {
		for _, x := range []int{0, 1, 16, 31} {
			refused(x, y)
		}
	}
	refused(-1, -1)
	refused(32, 192)
	refused(math.MinInt, math.MaxInt)
}

// P15.1
func TestWhere(t *testing.T) {
	for _, x := range []struct {
		place int
		want  owner
	}{
		{0, owner{0, 0, false}},
		{31, owner{31, 0, false}},
		{32, owner{0, 8, false}},
		{256, owner{0, 1, false}},
		{2047, owner{31, 63, false}},
		{2048, owner{0, 64, false}},
		{4096, owner{0, 128, false}},
		{6143, owner{31, 191, false}},
		{6144, owner{0, 0, true}},
		{6175, owner{31, 0, true}},
		{6176, owner{0, 8, true}},
		{6400, owner{0, 64, true}},
		{6911, owner{31, 184, true}},
	} {
		if a, b, attr, ok := raster.Where(x.place); (owner{a, b, attr}) != x.want || !ok {
			t.Errorf("Where(%d) = %d, %d, %t, %t, want %v", x.place, a, b, attr, ok, x.want)
		}
	}
}

// P15.1: Where is told by Pixel and Attr, which have each place once, an
// attribute's once for eight lines.
func TestWhereOfAllPlaces(t *testing.T) {
	owners := map[int]owner{}
	for y := 191; y >= 0; y-- {
		for x := range 32 {
			p, _ := raster.Pixel(x, y)
			if o, is := owners[p]; is {
				t.Fatalf("%d, %d stands where %v does", x, y, o)
			}
			owners[p] = owner{x, y, false}
			a, _ := raster.Attr(x, y)
			owners[a] = owner{x, y, true}
		}
	}
	if len(owners) != 6912 {
		t.Fatalf("%d places", len(owners))
	}
	for place := range 6912 {
		x, y, attr, ok := raster.Where(place)
		if got := (owner{x, y, attr}); got != owners[place] || !ok {
			t.Fatalf("Where(%d) = %v, %t, want %v", place, got, ok, owners[place])
		}
	}
}

// P15.1
func TestNobodysPlaces(t *testing.T) {
	for _, place := range append([]int{6912, 6913, 6943, 7167, 8191, 8192, 16383, 16384}, beyond...) {
		if x, y, attr, ok := raster.Where(place); (owner{x, y, attr}) != (owner{}) || ok {
			t.Errorf("Where(%d) = %d, %d, %t, %t", place, x, y, attr, ok)
		}
	}
}
