package masks

import (
	"fmt"
	"math"
	"slices"
	"strings"
	"testing"

	"circa/api"
)

// wrong returns strings that are no masks, with their errors.
func wrong() map[string]api.Errno {
	list := map[string]api.Errno{
		"":                                   api.ErrForm,
		"12x":                                api.ErrForm,
		"x":                                  api.ErrForm,
		"-1":                                 api.ErrForm,
		"+1":                                 api.ErrForm,
		" 1":                                 api.ErrForm,
		"1 ":                                 api.ErrForm,
		"1X\x00":                             api.ErrForm,
		"/":                                  api.ErrForm,
		":":                                  api.ErrForm,
		"W":                                  api.ErrForm,
		"Y":                                  api.ErrForm,
		"1\u0663":                            api.ErrForm, // a digit, but none of ASCII
		"\u03a7":                             api.ErrForm, // looks like an X
		"\u0158":                             api.ErrForm, // its last byte is that of an X
		"\xff":                               api.ErrForm,
		"X\x80":                              api.ErrForm,
		strings.Repeat("X", 17) + "Z":        api.ErrForm,
		"z" + strings.Repeat("1", 17):        api.ErrForm,
		strings.Repeat("1", 19):              api.ErrLimit,
		strings.Repeat("X", 19):              api.ErrLimit,
		"z" + strings.Repeat("1", 18):        api.ErrLimit,
		strings.Repeat("z", 19):              api.ErrLimit,
		strings.Repeat("\u0663", 10):         api.ErrLimit, // the bytes count
		strings.Repeat("X", 100000):          api.ErrLimit,
		strings.Repeat("1", 17) + "\xff\xff": api.ErrLimit,
	}
	return list
}

// shortMasks returns all masks of one to three places over some letters.
func shortMasks() []string {
	const letters = "0159X"
	list := []string{""}
	for begin := 0; len(list[begin]) < 3; begin++ {
		for i := range len(letters) {
			list = append(list, list[begin]+letters[i:i+1])
		}
	}
	return list[1:]
}

// longMasks returns masks of 17 and 18 places, and those of one kind of letter.
func longMasks() []string {
	list := []string{
		"123456789012345678", "12345678901234567X", "X23456789012345678", "9X8X7X6X5X4X3X2X1X", "X0X0X0X0X0X0X0X0X0",
		"X9X9X9X9X9X9X9X9X9", "00000000000000000X", "0XXXXXXXXXXXXXXXXX", "XXXXXXXXX000000000", "999999999XXXXXXXXX", "1X1X1X1X1X1X1X1X1",
		"000000000000000000", "999999999999999999", "50000X999990000X49",
	}
	for places := 1; places <= MaxLen; places++ {
		list = append(list, strings.Repeat("X", places), strings.Repeat("0", places), strings.Repeat("9", places))
	}
	return list
}

// agrees reports whether the text of a number, with leading zeros, agrees with a mask: the definition.
func agrees(m string, n int64) bool {
	if n < 0 {
		return false
	}
	text := fmt.Sprintf("%0*d", len(m), n)
	if len(text) != len(m) {
		return false
	}
	for i := range len(m) {
		if m[i] != 'X' && m[i] != text[i] {
			return false
		}
	}
	return true
}

// numbersIn returns the numbers of a short mask, ascending.
func numbersIn(m string) []int64 {
	var list []int64
	for n := int64(0); n < int64(math.Pow10(len(m))); n++ {
		if agrees(m, n) {
			list = append(list, n)
		}
	}
	return list
}

// near returns numbers that stand beside and in a mask: the ends of int64, numbers around powers of ten, and around numbers of the mask.
func near(m string) []int64 {
	list := []int64{math.MinInt64, math.MinInt64 + 1, math.MaxInt64, math.MaxInt64 - 1, 123456789012345678, 987654321098765432}
	for p := int64(1); p <= math.MaxInt64/10; p *= 10 {
		list = append(list, -p, p-1, p, p+1, 5*p, 9*p)
	}
	count, _ := Count(m)
	for i := int64(1); i > 0 && i <= count; i *= 7 {
		for _, index := range []int64{i - 1, count - i, count / i} {
			n, err := Nth(m, index)
			if err == api.OK {
				list = append(list, n-1, n, n+1)
			}
		}
	}
	return list
}

// P3.1: Check takes 1 to 18 digits and X, and tells what is too long from what is no mask.
func TestCheck(t *testing.T) {
	for _, m := range append(shortMasks(), longMasks()...) {
		if err := Check(m); err != api.OK {
			t.Errorf("Check(%q) = %d", m, err)
		}
	}
	for m, want := range wrong() {
		if err := Check(m); err != want {
			t.Errorf("Check(%.40q) = %d; want %d", m, err, want)
		}
	}
	for b := range 256 {
		want := api.ErrForm
		if b >= '0' && b <= '9' || b == 'X' {
			want = api.OK
		}
		for _, m := range []string{string([]byte{byte(b)}), string([]byte{'1', byte(b)}), string([]byte{byte(b), 'X'})} {
			if err := Check(m); err != want {
				t.Errorf("Check(%q) = %d; want %d", m, err, want)
			}
		}
	}
}

// The functions that return an error return that of Check first, and zero.
func TestErrorsOfMasks(t *testing.T) {
	for m, want := range wrong() {
		for name, f := range map[string]func(string) (int64, api.Errno){"Count": Count, "Least": Least, "Greatest": Greatest} {
			if n, err := f(m); n != 0 || err != want {
				t.Errorf("%s(%.40q) = %d, %d; want %d", name, m, n, err, want)
			}
		}
		for name, f := range map[string]func(string, int64) (int64, api.Errno){"Next": Next, "Prev": Prev, "Nth": Nth, "Index": Index} {
			for _, x := range []int64{math.MinInt64, -1, 0, 1, 12, math.MaxInt64} {
				if n, err := f(m, x); n != 0 || err != want {
					t.Errorf("%s(%.40q, %d) = %d, %d; want %d", name, m, x, n, err, want)
				}
			}
		}
		for _, n := range []int64{-1, 0, 1, 12, 111111111111111111} {
			if Has(m, n) {
				t.Errorf("Has(%.40q, %d)", m, n)
			}
		}
	}
}

// P3.2: what the numbers of a mask are.
func TestNumbers(t *testing.T) {
	for _, x := range []struct {
		m                      string
		count, least, greatest int64
	}{
		{"1X0X", 100, 1000, 1909},
		{"X", 10, 0, 9},
		{"0", 1, 0, 0},
		{"7", 1, 7, 7},
		{"007", 1, 7, 7},
		{"0X", 10, 0, 9},
		{"X0", 10, 0, 90},
		{"123456789012345678", 1, 123456789012345678, 123456789012345678},
		{"XXXXXXXXXXXXXXXXXX", 1_000_000_000_000_000_000, 0, 999_999_999_999_999_999},
		{"00000000000000000X", 10, 0, 9},
		{"X00000000000000000", 10, 0, 900_000_000_000_000_000},
	} {
		count, e := Count(x.m)
		least, f := Least(x.m)
		greatest, g := Greatest(x.m)
		if count != x.count || least != x.least || greatest != x.greatest || e != 0 || f != 0 || g != 0 {
			t.Errorf("of %s: Count %d, %d; Least %d, %d; Greatest %d, %d", x.m, count, e, least, f, greatest, g)
		}
	}
	for _, m := range shortMasks() {
		list := numbersIn(m)
		count, _ := Count(m)
		least, _ := Least(m)
		greatest, _ := Greatest(m)
		if count != int64(len(list)) || least != list[0] || greatest != list[len(list)-1] {
			t.Errorf("of %s: Count %d, Least %d, Greatest %d; want those of %d", m, count, least, greatest, list)
		}
	}
}

// P3.2: which numbers a mask has, among them negative ones and those that are longer than the mask.
func TestHas(t *testing.T) {
	for _, x := range []struct {
		m    string
		n    int64
		want bool
	}{
		{"1X0X", 1507, true},
		{"1X0X", 1517, false},
		{"1X0X", 11507, false},
		{"X", 0, true},
		{"X", -1, false},
		{"X", 10, false},
		{"7", 17, false},
		{"7", -7, false},
		{"0007", 7, true},
		{"XX", 5, true},
		{"1X", 5, false},
		{"XXXXXXXXXXXXXXXXXX", 999_999_999_999_999_999, true},
		{"XXXXXXXXXXXXXXXXXX", 1_000_000_000_000_000_000, false},
		{"XXXXXXXXXXXXXXXXXX", math.MaxInt64, false},
		{"XXXXXXXXXXXXXXXXXX", math.MinInt64, false},
		{"000000000000000000", 1_000_000_000_000_000_000, false},
	} {
		if got := Has(x.m, x.n); got != x.want {
			t.Errorf("Has(%s, %d) = %t", x.m, x.n, got)
		}
	}
	for _, m := range shortMasks() {
		for n := int64(-1100); n <= 11100; n++ {
			if got := Has(m, n); got != agrees(m, n) {
				t.Fatalf("Has(%s, %d) = %t", m, n, got)
			}
		}
	}
	for _, m := range longMasks() {
		for _, n := range near(m) {
			if got := Has(m, n); got != agrees(m, n) {
				t.Fatalf("Has(%s, %d) = %t", m, n, got)
			}
		}
	}
}

// P3.4: the numbers by their indices, and none beside them.
func TestNthIndex(t *testing.T) {
	for _, x := range []struct {
		m       string
		i, want int64
		err     api.Errno
	}{
		{"1X0X", 37, 1307, api.OK},
		{"1X0X", 100, 0, api.ErrRange},
		{"1X0X", -1, 0, api.ErrRange},
		{"7", 0, 7, api.OK},
		{"7", 1, 0, api.ErrRange},
		{"X", 9, 9, api.OK},
		{"X", 10, 0, api.ErrRange},
		{"X0X", math.MaxInt64, 0, api.ErrRange},
		{"X0X", math.MinInt64, 0, api.ErrRange},
		{"XXXXXXXXXXXXXXXXXX", 123456789012345678, 123456789012345678, api.OK},
		{"XXXXXXXXXXXXXXXXXX", 1_000_000_000_000_000_000, 0, api.ErrRange},
		{"00000000000000000X", 3, 3, api.OK},
	} {
		if n, err := Nth(x.m, x.i); n != x.want || err != x.err {
			t.Errorf("Nth(%s, %d) = %d, %d; want %d, %d", x.m, x.i, n, err, x.want, x.err)
		}
	}
	for _, x := range []struct {
		m       string
		n, want int64
		err     api.Errno
	}{
		{"1X0X", 1307, 37, api.OK},
		{"1X0X", 1317, 0, api.ErrNone},
		{"1X0X", 11307, 0, api.ErrNone},
		{"7", 7, 0, api.OK},
		{"7", -7, 0, api.ErrNone},
		{"7", 17, 0, api.ErrNone},
		{"X", math.MaxInt64, 0, api.ErrNone},
		{"X", math.MinInt64, 0, api.ErrNone},
		{"XXXXXXXXXXXXXXXXXX", 999_999_999_999_999_999, 999_999_999_999_999_999, api.OK},
		{"X0X0", 3040, 34, api.OK},
	} {
		if i, err := Index(x.m, x.n); i != x.want || err != x.err {
			t.Errorf("Index(%s, %d) = %d, %d; want %d, %d", x.m, x.n, i, err, x.want, x.err)
		}
	}
	for _, m := range shortMasks() {
		list := numbersIn(m)
		for i, n := range list {
			number, e := Nth(m, int64(i))
			index, f := Index(m, n)
			if number != n || index != int64(i) || e != 0 || f != 0 {
				t.Errorf("%s: Nth(%d) = %d, %d; Index(%d) = %d, %d", m, i, number, e, n, index, f)
			}
		}
		if n, err := Nth(m, int64(len(list))); n != 0 || err != api.ErrRange {
			t.Errorf("Nth(%s, %d) = %d, %d", m, len(list), n, err)
		}
		for n := int64(-100); n <= 1100; n++ {
			if i, err := Index(m, n); !agrees(m, n) && (i != 0 || err != api.ErrNone) {
				t.Fatalf("Index(%s, %d) = %d, %d", m, n, i, err)
			}
		}
	}
}

// P3.5: the mask of what two masks have in common, and the order of the errors.
func TestCommon(t *testing.T) {
	for _, x := range []struct {
		a, b, want string
		err        api.Errno
	}{
		{"1XX", "X2X", "12X", api.OK},
		{"X2X", "1XX", "12X", api.OK},
		{"1X", "2X", "", api.ErrNone},
		{"X1", "X2", "", api.ErrNone},
		{"1", "12", "", api.ErrArg},
		{"12", "1", "", api.ErrArg},
		{"1", "01", "", api.ErrArg},
		{"X", "X", "X", api.OK},
		{"12", "XX", "12", api.OK},
		{"12", "12", "12", api.OK},
		{"1", "2X", "", api.ErrArg}, // nothing in common, but the lengths come first
		{"XXXXXXXXXXXXXXXXX0", "1X2X3X4X5X6X7X8X9X", "1X2X3X4X5X6X7X8X90", api.OK},
		{"XXXXXXXXXXXXXXXXX0", "1X2X3X4X5X6X7X8X91", "", api.ErrNone},
	} {
		if got, err := Common(x.a, x.b); got != x.want || err != x.err {
			t.Errorf("Common(%s, %s) = %q, %d; want %q, %d", x.a, x.b, got, err, x.want, x.err)
		}
	}
	for a, e := range wrong() {
		for _, b := range []string{"X", "12", strings.Repeat("1", 18)} {
			if got, err := Common(a, b); got != "" || err != e {
				t.Errorf("Common(%.40q, %q) = %q, %d; want %d", a, b, got, err, e)
			}
			if got, err := Common(b, a); got != "" || err != e {
				t.Errorf("Common(%q, %.40q) = %q, %d; want %d", b, a, got, err, e)
			}
		}
		for b := range wrong() {
			if got, err := Common(a, b); got != "" || err != e {
				t.Errorf("Common(%.40q, %.40q) = %q, %d; want %d", a, b, got, err, e)
			}
		}
	}
}

// P3.5: Common has exactly the numbers that both masks have.
func TestCommonNumbers(t *testing.T) {
	numbers := map[string][]int64{}
	for _, m := range shortMasks() {
		numbers[m] = numbersIn(m)
	}
	for _, a := range shortMasks() {
		for _, b := range shortMasks() {
			if len(a) != len(b) {
				if got, err := Common(a, b); got != "" || err != api.ErrArg {
					t.Fatalf("Common(%s, %s) = %q, %d", a, b, got, err)
				}
				continue
			}
			var want []int64
			for _, n := range numbers[a] {
				if slices.Contains(numbers[b], n) {
					want = append(want, n)
				}
			}
			got, err := Common(a, b)
			if want == nil {
				if got != "" || err != api.ErrNone {
					t.Fatalf("Common(%s, %s) = %q, %d; want ErrNone", a, b, got, err)
				}
				continue
			}
			if err != api.OK || len(got) != len(a) || !slices.Equal(numbers[got], want) {
				t.Fatalf("Common(%s, %s) = %q, %d", a, b, got, err)
			}
		}
	}
}
