package runsets

import (
	"math/big"
	"math/rand"
	"regexp"
	"slices"
	"strings"
	"testing"

	"circa/api"
)

// P10.6: Text writes the text of a run set, and Parse reads it.
func TestTextAndParse(t *testing.T) {
	for _, x := range []struct {
		l    []api.Run
		text string
	}{
		{nil, "none"},
		{[]api.Run{{}}, "0..0"},
		{[]api.Run{days(1, 3), days(5, 5)}, "1..3,5..5"},
		{[]api.Run{days(-7, -3), days(-1, 10), days(12, 13)}, "-7..-3,-1..10,12..13"},
		{[]api.Run{upTo(-3), from(-1)}, "-inf..-3,-1..inf"},
		{[]api.Run{all}, "-inf..inf"},
		{[]api.Run{upTo(least), days(0, 0), from(most)}, "-inf..-9223372036854775808,0..0,9223372036854775807..inf"},
		{[]api.Run{days(least, most)}, "-9223372036854775808..9223372036854775807"},
	} {
		if got, err := Text(x.l); got != x.text || err != api.OK {
			t.Errorf("Text(%v) = %q, %d; want %q", x.l, got, err, x.text)
		}
		if got, err := Parse(x.text); !slices.Equal(got, x.l) || err != api.OK || !isNew(got) {
			t.Errorf("Parse(%q) = %v, %d; want %v", x.text, got, err, x.l)
		}
	}
	if got, err := Text([]api.Run{}); got != "none" || err != api.OK {
		t.Errorf("Text of an empty list = %q, %d", got, err)
	}
}

// P10.6: Parse reads what Text writes of all run sets on lines, and of sets of all sizes.
func TestParseInvertsText(t *testing.T) {
	sets := append(randomSets(1000, rand.New(rand.NewSource(19))), spaced(api.MaxRuns))
	for _, line := range lines() {
		sets = append(sets, setsOn(line, 0)...)
	}
	for _, l := range sets {
		s, err := Text(l)
		if err != api.OK {
			t.Fatalf("Text(%.3v): %d", l, err)
		}
		if got, err := Parse(s); !slices.Equal(got, l) || err != api.OK || !isNew(got) {
			t.Fatalf("Parse(%.60q) = %.3v, %d; want %.3v", s, got, err, l)
		}
	}
}

// P10.6: texts of no run set: first the form of all parts, then the first other error of one, then that of Check.
func TestParseErrors(t *testing.T) {
	const above = "9223372036854775808"
	for err, texts := range map[api.Errno][]string{
		api.ErrForm: {
			"", ",", ",,", " ", "1", "inf", "none,none", "none,", ",none", "none,1..2", "1..2,none", "None", "NONE", " none", "none ", "nones", "non", "nil",
			"1..3,", ",1..3", "1..3,,5..6", "1..2, 4..5", "1..2 ,4..5", "1..2,\n4..5", "1..2;4..5", "1..2 4..5", "1..24..5", "1..2..4", "[1..2]", "1..2,x", "x,1..2",
			"2..1,x", "x,2..1", above + "..1,x", "1.." + above + ",", "inf..inf,1...3", "1..2,1..2,", "5..6,1..2,+3..4", "01..2,4..5", "1..2,4..-0", "1..2\x00", "1..2,\xff",
			strings.Repeat("1..2,", api.MaxRuns+1), "none" + strings.Repeat(",1..2", api.MaxRuns+1), strings.Repeat(",", api.MaxText),
		},
		api.ErrOverflow: {
			above + "..1", "1.." + above, "1..2," + above + "..5", above + "..1,2..1", above + "..1,inf..inf", "5..6,1..2,4.." + above, "1..2,1..2,-" + above + "1..4",
			strings.Repeat("1..2,", api.MaxRuns+1) + above + "..5",
		},
		api.ErrRange: {"inf..inf", "-inf..-inf", "1..2,inf..5", "inf..inf,2..1", "inf..inf," + above + "..1", "5..6,1..2,inf..inf", strings.Repeat("1..2,", api.MaxRuns) + "0..-inf"},
		api.ErrOrder: {
			"2..1", "1..2,5..4", "2..1," + above + "..0", "2..1,inf..inf", "1..2,3..4", "1..2,2..3", "1..2,1..2", "5..6,1..2", "1..5,2..3", "1..inf,5..6", "-inf..3,4..inf",
			"0..9223372036854775807,0..inf", "5..6,1..2,9..8", strings.Repeat("1..2,", api.MaxRuns+1) + "2..1", strings.Repeat("1..2,", api.MaxRuns-1) + "1..2",
		},
		api.ErrLimit: {strings.Repeat("1..2,", api.MaxRuns) + "1..2", strings.Repeat("1..2,", 100_000) + "1..2"},
	} {
		for _, s := range texts {
			if got, e := Parse(s); len(got) != 0 || e != err {
				t.Errorf("Parse(%.60q) (%d bytes) = %.3v, %d; want %d", s, len(s), got, e, err)
			}
		}
	}
}

// P10.6: the greatest set, and one run more.
func TestParseLimitOfRuns(t *testing.T) {
	s, err := Text(spaced(api.MaxRuns))
	if err != api.OK {
		t.Fatalf("Text of %d runs: %d", api.MaxRuns, err)
	}
	if got, err := Parse(s); len(got) != api.MaxRuns || err != api.OK {
		t.Errorf("Parse of %d runs: %d runs, %d", api.MaxRuns, len(got), err)
	}
	if got, err := Parse(s + ",99999..99999"); len(got) != 0 || err != api.ErrLimit {
		t.Errorf("Parse of %d runs: %d runs, %d", api.MaxRuns+1, len(got), err)
	}
}

// P10.6: a text of MaxText bytes is read, a longer one is ErrLimit, whatever it says.
func TestParseLimitOfText(t *testing.T) {
	for _, x := range []struct {
		ahead, behind string
		err           api.Errno
	}{
		{"1..", "", api.ErrOverflow},
		{"1..2,4..", "", api.ErrOverflow},
		{"", "..1", api.ErrOverflow},
		{"", "", api.ErrForm},
		{"none", "", api.ErrForm},
		{"2..1,x", "", api.ErrForm},
	} {
		fill := api.MaxText - len(x.ahead) - len(x.behind)
		for more, want := range map[int]api.Errno{-1: x.err, 0: x.err, 1: api.ErrLimit, 99: api.ErrLimit} {
			s := x.ahead + strings.Repeat("9", fill+more) + x.behind
			if got, err := Parse(s); len(got) != 0 || err != want {
				t.Errorf("Parse(%.20q) (%d bytes) = %v, %d; want %d", s, len(s), got, err, want)
			}
		}
	}
}

// P10.6: the longest texts of run sets are read.
func TestLongTexts(t *testing.T) {
	l := make([]api.Run, api.MaxRuns)
	for i := range l {
		l[i] = days(least+int64(4*i), least+int64(4*i)+1)
	}
	s, err := Text(l)
	if want := api.MaxRuns*(20+2+20+1) - 1; len(s) != want || err != api.OK {
		t.Errorf("Text of %d long runs: %d bytes, %d; want %d", len(l), len(s), err, want)
	}
	if got, err := Parse(s); !slices.Equal(got, l) || err != api.OK {
		t.Errorf("Parse of a text of %d bytes: %d runs, %d", len(s), len(got), err)
	}
}

var setText = regexp.MustCompile(`\A(-?inf|0|-?[1-9][0-9]*)\.\.(-?inf|0|-?[1-9][0-9]*)\z`)

// parsed reads a short text by the definition.
func parsed(s string) ([]api.Run, api.Errno) {
	if s == "none" {
		return nil, api.OK
	}
	var l []api.Run
	first := api.OK
	for _, part := range strings.Split(s, ",") {
		ends := setText.FindStringSubmatch(part)
		if ends == nil {
			return nil, api.ErrForm
		}
		r, err := runOf(ends[1], ends[2])
		if first == api.OK {
			first = err
		}
		l = append(l, r)
	}
	for i := 1; first == api.OK && i < len(l); i++ {
		gap := new(big.Int).Sub(onLine(l[i].Lo), onLine(l[i-1].Hi))
		if gap.Cmp(one) <= 0 {
			first = api.ErrOrder
		}
	}
	if first != api.OK {
		return nil, first
	}
	return l, api.OK
}

// runOf returns the run with the texts of two ends, or its error.
func runOf(lo, hi string) (api.Run, api.Errno) {
	var ends [2]api.End
	for i, s := range []string{lo, hi} {
		n, isNumber := new(big.Int).SetString(s, 10)
		switch {
		case s == "-inf":
			ends[i] = low
		case s == "inf":
			ends[i] = high
		case !isNumber || !n.IsInt64():
			return api.Run{}, api.ErrOverflow
		default:
			ends[i] = day(n.Int64())
		}
	}
	switch {
	case ends[0] == high || ends[1] == low:
		return api.Run{}, api.ErrRange
	case onLine(ends[0]).Cmp(onLine(ends[1])) > 0:
		return api.Run{}, api.ErrOrder
	}
	return api.Run{Lo: ends[0], Hi: ends[1]}, api.OK
}

// P10.6: Parse of all texts of a few pieces.
func TestParsePieces(t *testing.T) {
	pieces := []string{",", "none", "1..2", "3..4", "4..9", "6..6", "8..inf", "-inf..0", "-inf..-1", "2..1", "inf..inf", "9223372036854775808..1", " ", "x", "-"}
	texts := []string{""}
	level := texts
	for range 5 {
		var next []string
		for _, s := range level {
			for _, piece := range pieces {
				next = append(next, s+piece)
			}
		}
		texts = append(texts, next...)
		level = next
	}
	for _, s := range texts {
		want, wantErr := parsed(s)
		if got, err := Parse(s); !slices.Equal(got, want) || err != wantErr {
			t.Fatalf("Parse(%q) = %v, %d; want %v, %d", s, got, err, want, wantErr)
		}
	}
}

// P10.6: Parse of texts of run sets of which one byte is changed, left out or put in.
func TestParseChangedTexts(t *testing.T) {
	const letters = "-.,019+ infoe"
	for _, text := range []string{"none", "0..0", "1..3,5..5", "-7..-3,-1..10,12..13", "-inf..-3,9..inf", "-9223372036854775808..0,9..9223372036854775807"} {
		for at := range len(text) + 1 {
			ahead, behind := text[:at], text[at:]
			var changed []string
			for i := range len(letters) {
				changed = append(changed, ahead+letters[i:i+1]+behind)
				if behind != "" {
					changed = append(changed, ahead+letters[i:i+1]+behind[1:], ahead+behind[1:])
				}
			}
			for _, s := range changed {
				want, wantErr := parsed(s)
				if got, err := Parse(s); !slices.Equal(got, want) || err != wantErr {
					t.Fatalf("Parse(%q) = %v, %d; want %v, %d", s, got, err, want, wantErr)
				}
			}
		}
	}
}
