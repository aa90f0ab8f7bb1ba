package event_test

import (
	"strings"
	"testing"

	"pendulum/api"
	"pendulum/event"
)

var texts = []struct {
	e    api.Event
	want string
}{
	{plain, "7 read 3 16384 5"},
	{api.Event{Chip: api.ChipCpu, Kind: api.EvFetch}, "0 fetch 0 0 0"},
	{api.Event{Time: 10, Chip: api.ChipUla, Seq: 20, Kind: api.EvBorder, A: 30, B: 7}, "10 border 20 30 7"},
	{api.Event{Time: 100, Chip: api.ChipAy, Seq: 1, Kind: api.EvLevel, A: 2, B: 15}, "100 level 1 2 15"},
	{
		api.Event{Time: api.MaxTime, Chip: api.ChipFdc, Seq: api.MaxSeq, Kind: api.EvStatus, A: 1 << 20, B: 255},
		"1099511627776 status 4294967296 1048576 255",
	},
}

// P3.2
func TestText(t *testing.T) {
	for _, x := range texts {
		if s := event.Text(x.e); s != x.want {
			t.Errorf("Text(%+v) = %q, want %q", x.e, s, x.want)
		}
		if e, err := event.Parse(x.want); err != api.OK || e != x.e {
			t.Errorf("Parse(%q) = %+v, error %d, want %+v", x.want, e, err, x.e)
		}
	}
}

// P3.2: each kind's name stands in its text.
func TestTextOfEachKind(t *testing.T) {
	for _, k := range kinds {
		want := "1 " + k.name + " 2 3 4"
		e := api.Event{Time: 1, Chip: k.chip, Seq: 2, Kind: k.kind, A: 3, B: 4}
		if s := event.Text(e); s != want {
			t.Errorf("Text(%+v) = %q, want %q", e, s, want)
		}
		if got, err := event.Parse(want); err != api.OK || got != e {
			t.Errorf("Parse(%q) = %+v, error %d", want, got, err)
		}
	}
}

// P3.3
func TestParseOfTextIsTheEvent(t *testing.T) {
	for _, e := range mayBe() {
		s := event.Text(e)
		if got, err := event.Parse(s); err != api.OK || got != e {
			t.Errorf("Parse(%q) = %+v, error %d, want %+v", s, got, err, e)
		}
	}
}

var noTexts = []string{
	"",
	" ",
	"    ",
	"read",
	"7 read 3 16384",
	"7 read 3 16384 5 ",
	" 7 read 3 16384 5",
	"7  read 3 16384 5",
	"7 read 3 16384  5",
	"7 read 3 16384 5 6",
	"7 read 3 16384 5\n",
	"7\tread 3 16384 5",
	"7 read 3 16384\u00a05",
	"7,read,3,16384,5",
	"07 read 3 16384 5",
	"00 read 3 16384 5",
	"7 read 03 16384 5",
	"7 read 3 016384 5",
	"7 read 3 16384 05",
	"-7 read 3 16384 5",
	"-0 read 3 16384 5",
	"+7 read 3 16384 5",
	"7 read -3 16384 5",
	"7 read +3 16384 5",
	"7 read 3 -1 5",
	"7 read 3 +1 5",
	"7 read 3 16384 -5",
	"7 read 3 16384 -0",
	"7. read 3 16384 5",
	"7e0 read 3 16384 5",
	"0x7 read 3 16384 5",
	"7 read 3 16_384 5",
	"7 read 3 ff 5",
	"7 read 3 16384 x",
	"7 read 3 16384 \u0665",
	" read 3 16384 5",
	"7  3 16384 5",
	"7 read  16384 5",
	"7 read 3  5",
	"7 read 3 16384 ",
	"7 reads 3 16384 5",
	"7 rea 3 16384 5",
	"7 Read 3 16384 5",
	"7 READ 3 16384 5",
	"7 2 3 16384 5",
	"7 none 3 16384 5",
	"read 7 3 16384 5",
	"1099511627777 read 3 16384 5",
	"7 read 4294967297 16384 5",
	"7 read 3 1048577 5",
	"7 read 3 16384 256",
	"9223372036854775807 read 3 16384 5",
	"9223372036854775808 read 3 16384 5",
	"18446744073709551623 read 3 16384 5", // 2^64 and 7
	"7 read 18446744073709551619 16384 5",
	"7 read 3 4294983680 5", // 2^32 and 16384
	"7 read 3 16384 4294967301",
	"7 read 3 16384 18446744073709551621",
}

// P3.2
func TestParseRefusesWhatIsNoEventsText(t *testing.T) {
	for _, s := range append(noTexts, strings.Repeat(" ", 1000), strings.Repeat("7 ", 1000), strings.Repeat("0", 1000)+"7 read 3 16384 5") {
		if e, err := event.Parse(s); err != api.ErrBad || e != (api.Event{}) {
			t.Errorf("Parse(%q) = %+v, error %d", s, e, err)
		}
	}
}

// P3.3: whatever is parsed is told so again.
func TestNoOtherTextsAreParsed(t *testing.T) {
	const s = "7 read 3 16384 5"
	for at := range len(s) + 1 {
		checkParse(t, s[:at])
		for c := range 256 {
			sign := string([]byte{byte(c)})
			checkParse(t, s[:at]+sign+s[at:])
			if at < len(s) {
				checkParse(t, s[:at]+sign+s[at+1:])
			}
		}
	}
}

func FuzzParse(f *testing.F) {
	for _, x := range texts {
		f.Add(x.want)
	}
	f.Fuzz(checkParse)
}

func checkParse(t *testing.T, s string) {
	e, err := event.Parse(s)
	if err != api.OK {
		if err != api.ErrBad || e != (api.Event{}) {
			t.Fatalf("Parse(%q) = %+v, error %d", s, e, err)
		}
		return
	}
	if again := event.Text(e); event.Check(e) != api.OK || again != s {
		t.Fatalf("%q is told again as %q", s, again)
	}
}
