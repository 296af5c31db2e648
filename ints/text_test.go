package ints

import (
	"cmp"
	"math"
	"math/big"
	"regexp"
	"slices"
	"strings"
	"testing"

	"circa/api"
)

// P1.5: Text writes decimal numbers.
func TestText(t *testing.T) {
	for _, x := range []struct {
		n    int64
		want string
	}{
		{0, "0"},
		{7, "7"},
		{-7, "-7"},
		{1000, "1000"},
		{math.MaxInt64, "9223372036854775807"},
		{math.MinInt64, "-9223372036854775808"},
	} {
		if got := Text(x.n); got != x.want {
			t.Errorf("Text(%d) = %q; want %q", x.n, got, x.want)
		}
	}
	for _, n := range edges() {
		if got, want := Text(n), big.NewInt(n).String(); got != want {
			t.Errorf("Text(%d) = %q", n, got)
		}
	}
}

// P1.5: Parse reads the texts of integers, and tells what is none from what does not fit.
func TestParse(t *testing.T) {
	for _, x := range []struct {
		text string
		want int64
		err  api.Errno
	}{
		{"0", 0, api.OK},
		{"10", 10, api.OK},
		{"-1", -1, api.OK},
		{"9223372036854775807", math.MaxInt64, api.OK},
		{"9223372036854775808", 0, api.ErrOverflow},
		{"-9223372036854775808", math.MinInt64, api.OK},
		{"-9223372036854775809", 0, api.ErrOverflow},
		{"18446744073709551616", 0, api.ErrOverflow},
		{"1" + strings.Repeat("0", 5000), 0, api.ErrOverflow},
		{"-1" + strings.Repeat("0", 5000), 0, api.ErrOverflow},
		{"", 0, api.ErrForm},
		{"-", 0, api.ErrForm},
		{"--1", 0, api.ErrForm},
		{"+1", 0, api.ErrForm},
		{"-0", 0, api.ErrForm},
		{"00", 0, api.ErrForm},
		{"007", 0, api.ErrForm},
		{"-07", 0, api.ErrForm},
		{" 1", 0, api.ErrForm},
		{"1 ", 0, api.ErrForm},
		{"1\n", 0, api.ErrForm},
		{"1\x00", 0, api.ErrForm},
		{"1-", 0, api.ErrForm},
		{"1.0", 0, api.ErrForm},
		{"1_0", 0, api.ErrForm},
		{"1e3", 0, api.ErrForm},
		{"0x1", 0, api.ErrForm},
		{"\u0663", 0, api.ErrForm}, // a digit, but none of ASCII
		{"\xff", 0, api.ErrForm},
		{"99999999999999999999x", 0, api.ErrForm},
		{"0" + strings.Repeat("9", 5000), 0, api.ErrForm},
		{"-0" + strings.Repeat("0", 5000), 0, api.ErrForm},
	} {
		if got, err := Parse(x.text); got != x.want || err != x.err {
			t.Errorf("Parse(%.40q) = %d, %d; want %d, %d", x.text, got, err, x.want, x.err)
		}
	}
}

// P1.5: of all short texts over some bytes, Parse takes exactly those that Text writes.
func TestParseShortTexts(t *testing.T) {
	const letters = "-019+_.x /:"
	right := regexp.MustCompile(`\A(0|-?[1-9][0-9]*)\z`)
	texts := []string{""}
	for begin := 0; len(texts[begin]) < 5; begin++ {
		for i := range len(letters) {
			texts = append(texts, texts[begin]+letters[i:i+1])
		}
	}
	for _, s := range texts {
		n, err := Parse(s)
		if !right.MatchString(s) {
			if n != 0 || err != api.ErrForm {
				t.Fatalf("Parse(%q) = %d, %d; want ErrForm", s, n, err)
			}
		} else if err != api.OK || Text(n) != s {
			t.Fatalf("Parse(%q) = %d, %d", s, n, err)
		}
	}
}

// P1.6: Parse inverts Text.
func TestParseInvertsText(t *testing.T) {
	for _, n := range edges() {
		if got, err := Parse(Text(n)); got != n || err != api.OK {
			t.Errorf("Parse(Text(%d)) = %d, %d", n, got, err)
		}
	}
}

// P1.6: Sub inverts Add, and Div and Mod put together give the number again.
func TestInverses(t *testing.T) {
	list := edges()
	for _, a := range list {
		for _, b := range list {
			if sum, err := Add(a, b); err == api.OK {
				if got, err := Sub(sum, b); got != a || err != api.OK {
					t.Fatalf("Sub(%d + %d, %d) = %d, %d", a, b, b, got, err)
				}
			}
			quotient, err := Div(a, b)
			if err != api.OK {
				continue
			}
			rest, err := Mod(a, b)
			whole := new(big.Int).Mul(big.NewInt(quotient), big.NewInt(b))
			whole.Add(whole, big.NewInt(rest))
			if err != api.OK || whole.Cmp(big.NewInt(a)) != 0 {
				t.Fatalf("Div and Mod of %d, %d: %d, %d, %d", a, b, quotient, rest, err)
			}
		}
	}
}

// P1.6: of two numbers that are divided by the same positive one, the greater one has no lesser quotient.
func TestQuotientsAscend(t *testing.T) {
	list := edges()
	slices.SortFunc(list, cmp.Compare[int64])
	for _, b := range list {
		if b <= 0 {
			continue
		}
		last := int64(math.MinInt64)
		for _, a := range list {
			quotient, err := Div(a, b)
			if err != api.OK || quotient < last {
				t.Fatalf("Div(%d, %d) = %d, %d, behind %d", a, b, quotient, err, last)
			}
			last = quotient
		}
	}
}
