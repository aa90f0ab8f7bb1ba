package text

import (
	"sync"

	"pendulum/api"
)

var knownOnce sync.Once

// knownByText has by all texts without the numbers of operands the
// instructions, those numbers 0; it is made behind knownOnce. It stands beside
// ofBare, which tells the same without anything that is kept.
var knownByText map[string]api.Ins

// Known answers what the map has for a text without the numbers of operands:
// the instruction, those numbers 0; false, if there is none.
func Known(bare string) (api.Ins, bool) {
	i, is := known()[bare]
	return i, is
}

func known() map[string]api.Ins {
	knownOnce.Do(func() { knownByText = makeKnown() })
	return knownByText
}

// makeKnown goes over all operations' bytes, with all that may stand ahead of
// them. Those that stand ahead themselves tell another one again, or a lone
// prefix.
func makeKnown() map[string]api.Ins {
	byText := map[string]api.Ins{}
	for _, ahead := range [...]string{"", "\xcb", "\xed", "\xdd", "\xfd", "\xdd\xcb\x00", "\xfd\xcb\x00"} {
		for op := range 256 {
			i := withoutOperands(ahead, op)
			if !isBytes(i) {
				byText[toldBare(i)] = i
			}
		}
	}
	return byText
}
