package event

import (
	"strconv"
	"strings"

	"pendulum/api"
)

const textWords = 5

// Text answers an event's text, nothing of one that may not be.
func Text(e api.Event) string {
	if Check(e) != api.OK {
		return ""
	}
	return strings.Join([]string{
		digits(e.Time),
		Name(e.Kind),
		digits(e.Seq),
		digits(int64(e.A)),
		digits(int64(e.B)),
	}, " ")
}

// Parse answers the event whose text s is. Words are read leniently, for an
// event counts only if its own text is s to the byte.
func Parse(s string) (api.Event, api.Errno) {
	words := strings.SplitN(s, " ", textWords+1)
	if len(words) != textWords {
		return api.Event{}, api.ErrBad
	}
	kind := kindOf(words[1])
	e := api.Event{
		Time: value(words[0]),
		Chip: Chip(kind),
		Seq:  value(words[2]),
		Kind: kind,
		A:    int(value(words[3])),
		B:    int(value(words[4])),
	}
	if Text(e) != s {
		return api.Event{}, api.ErrBad
	}
	return e, api.OK
}

func digits(n int64) string {
	return strconv.FormatInt(n, 10)
}

// value answers some number for a word that is none, which Parse then refuses.
func value(word string) int64 {
	n, _ := strconv.ParseInt(word, 10, 64)
	return n
}

// kindOf answers the kind of a name, 0 of what is none.
func kindOf(name string) int {
	for kind, known := range names {
		if known == name {
			return kind
		}
	}
	return 0
}
