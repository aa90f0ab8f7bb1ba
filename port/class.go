package port

import "pendulum/api"

// names has for each class its name; the place 0, which is no class, has none.
var names = [...]string{
	api.PortUla:    "ula",
	api.PortPage:   "page",
	api.PortMore:   "more",
	api.PortSelect: "select",
	api.PortData:   "data",
	api.PortMain:   "main",
	api.PortFdc:    "fdc",
	api.PortNone:   "none",
}

// usual has for each class the port that programs take; the place 0 has none.
var usual = [...]uint16{
	api.PortUla:    0x00_fe,
	api.PortPage:   0x7f_fd,
	api.PortMore:   0x1f_fd,
	api.PortSelect: 0xff_fd,
	api.PortData:   0xbf_fd,
	api.PortMain:   0x2f_fd,
	api.PortFdc:    0x3f_fd,
	api.PortNone:   0x00_ff,
}

// Chip answers the chip of a class, 0 of what is none.
func Chip(class int) int {
	switch class {
	case api.PortUla, api.PortNone:
		return api.ChipUla
	case api.PortSelect, api.PortData:
		return api.ChipAy
	case api.PortMain, api.PortFdc:
		return api.ChipFdc
	case api.PortPage, api.PortMore:
		return api.ChipCpu
	}
	return 0
}

// Name answers the name of a class, nothing of what is none.
func Name(class int) string {
	if !isClass(class) {
		return ""
	}
	return names[class]
}

// Usual answers the port of a class that programs take, 0 of what is none.
func Usual(class int) uint16 {
	if !isClass(class) {
		return 0
	}
	return usual[class]
}

func isClass(class int) bool {
	return class >= api.PortUla && class <= api.PortNone
}
