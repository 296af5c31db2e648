package ends

import (
	"regexp"
	"strings"
	"testing"

	"circa/api"
)

// withTexts are ends and their texts.
var withTexts = []struct {
	end  api.End
	text string
}{
	{low, "-inf"},
	{high, "inf"},
	{api.End{}, "0"},
	{api.End{Day: 1}, "1"},
	{api.End{Day: -1}, "-1"},
	{api.End{Day: -7}, "-7"},
	{api.End{Day: 10}, "10"},
	{api.End{Day: -100}, "-100"},
	{api.End{Day: 719_528}, "719528"},
	{api.End{Day: most}, "9223372036854775807"},
	{api.End{Day: most - 1}, "9223372036854775806"},
	{api.End{Day: least}, "-9223372036854775808"},
	{api.End{Day: least + 1}, "-9223372036854775807"},
}

// P8.4: Text writes the text of an end, and Parse reads it.
func TestTextAndParse(t *testing.T) {
	for _, x := range withTexts {
		if got, err := Text(x.end); got != x.text || err != api.OK {
			t.Errorf("Text(%v) = %q, %d; want %q", x.end, got, err, x.text)
		}
		if got, err := Parse(x.text); got != x.end || err != api.OK {
			t.Errorf("Parse(%q) = %v, %d; want %v", x.text, got, err, x.end)
		}
	}
}

// P8.4: an end that is not right has no text.
func TestTextOfWrongEnds(t *testing.T) {
	for _, x := range wrong {
		if got, err := Text(x); got != "" || err != api.ErrForm {
			t.Errorf("Text(%v) = %q, %d; want ErrForm", x, got, err)
		}
	}
}

// P8.4: texts of no end, and of days that are no int64.
func TestParseOfOtherTexts(t *testing.T) {
	for _, s := range []string{
		"", "-", "+", "+inf", "Inf", "INF", "-Inf", "-INF", "inf ", " inf", "-inf ", "- inf", "--inf", "in", "-in", "i", "nf", "infinity", "-infinity", "inf0", "0inf", "1inf", "inf\n", "inf\x00", "infinf", "inf-inf", "nan", "NaN", "..", "∞", "-∞",
		"-0", "+0", "00", "01", "-01", "+5", "--1", "5-", "1.0", "1e3", "0x1", " 1", "1 ", "1_000", "1,0", "\xff", "٣",
		"99999999999999999999x", "0" + strings.Repeat("9", 50),
	} {
		if got, err := Parse(s); got != (api.End{}) || err != api.ErrForm {
			t.Errorf("Parse(%q) = %v, %d; want ErrForm", s, got, err)
		}
	}
	for _, s := range []string{
		"9223372036854775808", "-9223372036854775809", "18446744073709551616", "-18446744073709551616", "99999999999999999999", "1" + strings.Repeat("0", 5000), "-" + strings.Repeat("9", 5000),
	} {
		if got, err := Parse(s); got != (api.End{}) || err != api.ErrOverflow {
			t.Errorf("Parse(%.40q) = %v, %d; want ErrOverflow", s, got, err)
		}
	}
}

// P8.4: of all short texts over some bytes, Parse takes exactly those that Text writes.
func TestParseShortTexts(t *testing.T) {
	const letters = "-+inf0 1"
	right := regexp.MustCompile(`\A(-?inf|0|-?[1-9][0-9]*)\z`)
	texts := []string{""}
	for begin := 0; len(texts[begin]) < 5; begin++ {
		for i := range len(letters) {
			texts = append(texts, texts[begin]+letters[i:i+1])
		}
	}
	for _, s := range texts {
		x, err := Parse(s)
		if !right.MatchString(s) {
			if x != (api.End{}) || err != api.ErrForm {
				t.Fatalf("Parse(%q) = %v, %d; want ErrForm", s, x, err)
			}
		} else if text, fault := Text(x); err != api.OK || text != s || fault != api.OK {
			t.Fatalf("Parse(%q) = %v, %d", s, x, err)
		}
	}
}

// P8.5: Parse inverts Text.
func TestParseInvertsText(t *testing.T) {
	for _, x := range inOrder() {
		s, err := Text(x)
		if err != api.OK {
			t.Errorf("Text(%v): %d", x, err)
		}
		if got, err := Parse(s); got != x || err != api.OK {
			t.Errorf("Parse(%q) = %v, %d; want %v", s, got, err, x)
		}
	}
}
