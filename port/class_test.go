package port_test

import (
	"slices"
	"testing"

	"pendulum/api"
	"pendulum/port"
)

// told is what is told of a class.
type told struct {
	class, chip int
	name        string
	usual       uint16
}

var known = []told{
	{1, api.ChipUla, "ula", 0xfe},
	{2, api.ChipCpu, "page", 0x7ffd},
	{3, api.ChipCpu, "more", 0x1ffd},
	{4, api.ChipAy, "select", 0xfffd},
	{5, api.ChipAy, "data", 0xbffd},
	{6, api.ChipFdc, "main", 0x2ffd},
	{7, api.ChipFdc, "fdc", 0x3ffd},
	{8, api.ChipUla, "none", 0xff},
}

func of(class int) told {
	return told{class, port.Chip(class), port.Name(class), port.Usual(class)}
}

// P14.2
func TestToldOfClasses(t *testing.T) {
	for _, want := range known {
		if got := of(want.class); got != want {
			t.Errorf("got %v, want %v", got, want)
		}
	}
}

// P14.2
func TestNothingIsToldOfNoClass(t *testing.T) {
	for _, class := range nowhere {
		if got := of(class); got != (told{class: class}) {
			t.Errorf("of %d: %v", class, got)
		}
	}
}

// P14.3
func TestUsualPortsAreOfTheirClassAlone(t *testing.T) {
	for _, k := range known {
		p := port.Usual(k.class)
		for class := range 10 {
			if got, want := port.Is(class, p), class == k.class; got != want && class != 8 {
				t.Errorf("Is(%d, %04x) = %t", class, p, got)
			}
		}
		if k.class == 8 {
			continue
		}
		if got := port.Of(p); !slices.Equal(got, []int{k.class}) {
			t.Errorf("Of(%04x) = %d", p, got)
		}
	}
}

// P14.3: of what is written, and of what is read likewise.
func TestUsualPortsAreWrittenAndReadByTheirClassAlone(t *testing.T) {
	for _, r := range table {
		p := port.Usual(r.class)
		var written []int
		if r.written {
			written = []int{r.class}
		}
		if got := port.Written(p); !slices.Equal(got, written) {
			t.Errorf("Written(%04x) = %d, want %d", p, got, written)
		}
		read := 8
		if r.read {
			read = r.class
		}
		if got := port.Read(p); got != read {
			t.Errorf("Read(%04x) = %d, want %d", p, got, read)
		}
	}
	p := port.Usual(8)
	if len(port.Of(p)) != 0 || len(port.Written(p)) != 0 || port.Read(p) != 8 || !port.Is(8, p) {
		t.Errorf("%04x is of %d, read %d", p, port.Of(p), port.Read(p))
	}
}
