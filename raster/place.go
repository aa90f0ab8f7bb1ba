package raster

// A place has thirteen bits: x is the lowest five, and the bits of y, which
// stand above, are in another order than in y: the third of the picture, the
// line within a row of letters, the row of letters within the third.
const (
	third  = 0xc0
	fine   = 0x07
	letter = 0x38
	across = 0x1f
)

const (
	thirdUp    = 5
	fineUp     = 8
	letterUp   = 2
	attrUp     = 2
	firstAttr  = 6144
	behindAttr = 6912
	wide       = 32
	rows       = 192
)

// Pixel answers where in the picture's bank the byte x of the line y stands.
func Pixel(x, y int) (int, bool) {
	if !isByte(x, y) {
		return 0, false
	}
	return y&third<<thirdUp | y&fine<<fineUp | y&letter<<letterUp | x, true
}

// Attr answers where in the picture's bank that byte's attribute stands.
func Attr(x, y int) (int, bool) {
	if !isByte(x, y) {
		return 0, false
	}
	return firstAttr | y&^fine<<attrUp | x, true
}

// Where answers whose byte stands at a place: of an attribute the first line
// that has it.
func Where(place int) (x, y int, attr, ok bool) {
	if !within(place, behindAttr) {
		return 0, 0, false, false
	}
	x = place & across
	if place >= firstAttr {
		return x, (place - firstAttr) >> attrUp &^ fine, true, true
	}
	return x, place>>thirdUp&third | place>>fineUp&fine | place>>letterUp&letter, false, true
}

func isByte(x, y int) bool {
	return within(x, wide) && within(y, rows)
}

// within answers whether n is from 0 on and below the end.
func within(n, end int) bool {
	return n >= 0 && n < end
}
