package runs

import (
	"math/big"
	"regexp"
	"strings"
	"testing"

	"circa/api"
)

// withTexts are runs and their texts.
var withTexts = []struct {
	run  api.Run
	text string
}{
	{api.Run{}, "0..0"},
	{api.Run{Lo: api.End{Day: 1}, Hi: api.End{Day: 3}}, "1..3"},
	{api.Run{Lo: api.End{Day: -7}, Hi: api.End{Day: -3}}, "-7..-3"},
	{api.Run{Lo: api.End{Day: -100}, Hi: api.End{Day: 10}}, "-100..10"},
	{api.Run{Lo: api.End{Inf: -1}, Hi: api.End{Day: -3}}, "-inf..-3"},
	{api.Run{Lo: api.End{Day: 719_528}, Hi: api.End{Inf: 1}}, "719528..inf"},
	{api.Run{Lo: api.End{Inf: -1}, Hi: api.End{Inf: 1}}, "-inf..inf"},
	{api.Run{Lo: api.End{Day: least}, Hi: api.End{Day: most}}, "-9223372036854775808..9223372036854775807"},
	{api.Run{Lo: api.End{Day: most}, Hi: api.End{Day: most}}, "9223372036854775807..9223372036854775807"},
	{api.Run{Lo: api.End{Day: least}, Hi: api.End{Day: least}}, "-9223372036854775808..-9223372036854775808"},
	{api.Run{Lo: api.End{Inf: -1}, Hi: api.End{Day: least}}, "-inf..-9223372036854775808"},
	{api.Run{Lo: api.End{Day: most}, Hi: api.End{Inf: 1}}, "9223372036854775807..inf"},
}

// P9.7: Text writes the text of a run, and Parse reads it.
func TestTextAndParse(t *testing.T) {
	for _, x := range withTexts {
		if got, err := Text(x.run); got != x.text || err != api.OK {
			t.Errorf("Text(%v) = %q, %d; want %q", x.run, got, err, x.text)
		}
		if got, err := Parse(x.text); got != x.run || err != api.OK {
			t.Errorf("Parse(%q) = %v, %d; want %v", x.text, got, err, x.run)
		}
	}
}

// P9.7: a run that is not right has no text.
func TestTextOfWrongRuns(t *testing.T) {
	for _, x := range wrongRuns() {
		if got, err := Text(x.run); got != "" || err != x.err {
			t.Errorf("Text(%v) = %q, %d; want %d", x.run, got, err, x.err)
		}
	}
}

// P9.7: texts of no run: first their form, then numbers that are no int64, then the error of Check.
func TestParseErrors(t *testing.T) {
	const above, below = "9223372036854775808", "-9223372036854775809"
	for err, texts := range map[api.Errno][]string{
		api.ErrForm: {
			"", ".", "..", "...", "....", "1", "inf", "1..", "..1", "inf..", "..inf", "1.2", "1...3", "1....3", "1..2..3", "1..2..", "..1..2",
			" 1..2", "1..2 ", "1 ..2", "1.. 2", "1..2\n", "1..2\x00", "\xff1..2", "1. .2", "1,2", "1-2", "1:2", "1/2", "1–2", "1…2",
			"01..2", "1..02", "+1..2", "1..+2", "-0..2", "-2..-0", "--1..2", "1..--2", "1_0..20", "0x1..2", "1e1..20", "1.0..2", "1..2.0", "٣..4",
			"Inf..3", "-Inf..3", "+inf..3", "1..INF", "1..+inf", "1..infinity", "- inf..3", "inf0..3", "nan..nan", "[1..2]", "1..2,3..4", "none",
			"x..1", "1..x", "2..x", "99999999999999999999..x", "x..99999999999999999999", "99999999999999999999..", "..99999999999999999999", "99999999999999999999",
			above + "..+1", "+1.." + above, "inf..x", "x..-inf", "inf..-0", "01..-inf", above + ".." + above + "..1",
			"1.." + strings.Repeat("9", 50) + "x", "0" + strings.Repeat("9", 50) + "..1",
		},
		api.ErrOverflow: {
			above + "..1", "1.." + above, below + "..1", "1.." + below, above + ".." + below, below + ".." + above, above + ".." + above,
			"99999999999999999999..1", "18446744073709551616..3", "0..18446744073709551616",
			"inf.." + above, above + "..-inf", "inf.." + below, below + "..-inf", "-inf.." + above, below + "..inf", above + "..inf",
			"1.." + strings.Repeat("9", 5000), "-1" + strings.Repeat("0", 5000) + "..1",
		},
		api.ErrRange: {"inf..inf", "-inf..-inf", "inf..-inf", "inf..0", "0..-inf", "1..-inf", "inf..9223372036854775807", "-9223372036854775808..-inf"},
		api.ErrOrder: {"5..3", "2..1", "1..0", "0..-1", "-3..-4", "10..9", "9223372036854775807..9223372036854775806", "-9223372036854775807..-9223372036854775808", "9223372036854775807..-9223372036854775808"},
	} {
		for _, s := range texts {
			if got, e := Parse(s); got != (api.Run{}) || e != err {
				t.Errorf("Parse(%.60q) = %v, %d; want %d", s, got, e, err)
			}
		}
	}
}

var runText = regexp.MustCompile(`\A(-?inf|0|-?[1-9][0-9]*)\.\.(-?inf|0|-?[1-9][0-9]*)\z`)

// parsed reads a text by the definition.
func parsed(s string) (api.Run, api.Errno) {
	parts := runText.FindStringSubmatch(s)
	if parts == nil {
		return api.Run{}, api.ErrForm
	}
	var both [2]api.End
	for i, part := range parts[1:] {
		switch n, _ := new(big.Int).SetString(part, 10); {
		case part == "inf":
			both[i] = high
		case part == "-inf":
			both[i] = low
		case !n.IsInt64():
			return api.Run{}, api.ErrOverflow
		default:
			both[i] = day(n.Int64())
		}
	}
	r := api.Run{Lo: both[0], Hi: both[1]}
	if err := errorOf(r); err != api.OK {
		return api.Run{}, err
	}
	return r, api.OK
}

// P9.7: Parse of all texts of a few pieces.
func TestParsePieces(t *testing.T) {
	pieces := []string{"-", ".", "..", "inf", "0", "1", " ", "9223372036854775807", "9223372036854775808"}
	texts := []string{""}
	level := texts
	for range 5 {
		var next []string
		for _, s := range level {
			for _, piece := range pieces {
				next = append(next, s+piece)
			}
		}
		texts = append(texts, next...)
		level = next
	}
	for _, s := range texts {
		want, wantErr := parsed(s)
		if got, err := Parse(s); got != want || err != wantErr {
			t.Fatalf("Parse(%q) = %v, %d; want %v, %d", s, got, err, want, wantErr)
		}
	}
}

// P9.7: Parse of texts of runs of which one byte is changed, left out or put in.
func TestParseChangedTexts(t *testing.T) {
	const letters = "-.019+ infx,"
	for _, x := range withTexts {
		for at := range len(x.text) + 1 {
			ahead, behind := x.text[:at], x.text[at:]
			var changed []string
			for i := range len(letters) {
				changed = append(changed, ahead+letters[i:i+1]+behind)
				if behind != "" {
					changed = append(changed, ahead+letters[i:i+1]+behind[1:], ahead+behind[1:])
				}
			}
			for _, s := range changed {
				want, wantErr := parsed(s)
				if got, err := Parse(s); got != want || err != wantErr {
					t.Fatalf("Parse(%q) = %v, %d; want %v, %d", s, got, err, want, wantErr)
				}
			}
		}
	}
}

// P9.8: Parse inverts Text.
func TestParseInvertsText(t *testing.T) {
	for _, r := range edgeRuns() {
		s, err := Text(r)
		if err != api.OK {
			t.Errorf("Text(%v): %d", r, err)
		}
		if got, err := Parse(s); got != r || err != api.OK {
			t.Errorf("Parse(%q) = %v, %d; want %v", s, got, err, r)
		}
	}
}
