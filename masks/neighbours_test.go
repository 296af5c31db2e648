package masks

import (
	"fmt"
	"math"
	"testing"

	"circa/api"
)

// P3.3: the numbers beside any int64.
func TestNextPrev(t *testing.T) {
	const least, most = math.MinInt64, math.MaxInt64
	for _, x := range []struct {
		m          string
		n          int64
		next, prev int64 // -1: there is none
	}{
		{"1X0X", 1010, 1100, 1009},
		{"1X0X", 1950, -1, 1909},
		{"1X0X", -5, 1000, -1},
		{"1X0X", 1099, 1100, 1009},
		{"1X0X", 1909, 1909, 1909},
		{"1X0X", 1910, -1, 1909},
		{"1X0X", 1000, 1000, 1000},
		{"1X0X", 999, 1000, -1},
		{"1X0X", 9999, -1, 1909},
		{"1X0X", 10000, -1, 1909},
		{"X", 5, 5, 5},
		{"X", -1, 0, -1},
		{"X", 0, 0, 0},
		{"X", 10, -1, 9},
		{"X", least, 0, -1},
		{"X", most, -1, 9},
		{"5", least, 5, -1},
		{"5", 5, 5, 5},
		{"5", 4, 5, -1},
		{"5", 6, -1, 5},
		{"5", 15, -1, 5},
		{"5", most, -1, 5},
		{"0", -1, 0, -1},
		{"0", 1, -1, 0},
		{"000", 0, 0, 0},
		{"X9X", 989, 990, 899},
		{"1X5", 196, -1, 195},
		{"9X0X9", 90910, 91009, 90099}, // the search goes back over nines
		{"X1X1", 1992, 2101, 1191},
		{"XXXXXXXXXXXXXXXXXX", least, 0, -1},
		{"XXXXXXXXXXXXXXXXXX", most, -1, 999_999_999_999_999_999},
		{"XXXXXXXXXXXXXXXXXX", 999_999_999_999_999_999, 999_999_999_999_999_999, 999_999_999_999_999_999},
		{"X00000000000000000", 1, 100_000_000_000_000_000, 0},
		{"X99999999999999999", 200_000_000_000_000_000, 299_999_999_999_999_999, 199_999_999_999_999_999},
		{"123456789012345678", 123456789012345679, -1, 123456789012345678},
	} {
		for name, y := range map[string]struct {
			f    func(string, int64) (int64, api.Errno)
			want int64
		}{"Next": {Next, x.next}, "Prev": {Prev, x.prev}} {
			want, wantErr := y.want, api.OK
			if want < 0 {
				want, wantErr = 0, api.ErrNone
			}
			if got, err := y.f(x.m, x.n); got != want || err != wantErr {
				t.Errorf("%s(%s, %d) = %d, %d; want %d, %d", name, x.m, x.n, got, err, want, wantErr)
			}
		}
	}
}

// P3.3: Next and Prev of short masks against all their numbers.
func TestNextPrevShort(t *testing.T) {
	for _, m := range shortMasks() {
		list := numbersIn(m)
		behind := 0 // the first number that is at least n
		for n := int64(-20); n <= 1020; n++ {
			for behind < len(list) && list[behind] < n {
				behind++
			}
			want := "0 16"
			if behind < len(list) {
				want = fmt.Sprint(list[behind], 0)
			}
			if got := fmt.Sprint(Next(m, n)); got != want {
				t.Fatalf("Next(%s, %d) = %s; want %s", m, n, got, want)
			}
			want = "0 16"
			if behind < len(list) && list[behind] == n {
				want = fmt.Sprint(n, 0)
			} else if behind > 0 {
				want = fmt.Sprint(list[behind-1], 0)
			}
			if got := fmt.Sprint(Prev(m, n)); got != want {
				t.Fatalf("Prev(%s, %d) = %s; want %s", m, n, got, want)
			}
		}
	}
}

// countBelow returns how many numbers of a mask are less than n, digit by digit.
func countBelow(m string, n int64) int64 {
	if n <= 0 {
		return 0
	}
	text := fmt.Sprintf("%0*d", len(m), n)
	if len(text) > len(m) {
		text = "" // all are less
	}
	var below int64
	equal := text != "" // whether a number of the mask can begin as n
	if !equal {
		below = 1
	}
	for i := range len(m) {
		switch {
		case m[i] != 'X' && equal && m[i] < text[i]:
			below, equal = below+1, false
		case m[i] != 'X':
			equal = equal && m[i] == text[i]
		case equal:
			below = 10*below + int64(text[i]-'0')
		default:
			below *= 10
		}
	}
	return below
}

// P3.3, P3.6: Next and Prev of long masks are the numbers with the indices that counting gives, and between n and them there is none.
func TestNextPrevLong(t *testing.T) {
	for _, m := range longMasks() {
		count, _ := Count(m)
		for _, n := range near(m) {
			below := countBelow(m, n)
			upTo := below
			if agrees(m, n) {
				upTo++
			}
			next, err := Next(m, n)
			if below == count {
				if next != 0 || err != api.ErrNone {
					t.Fatalf("Next(%s, %d) = %d, %d; want ErrNone", m, n, next, err)
				}
			} else if index, _ := Index(m, next); err != api.OK || !agrees(m, next) || next < n || index != below {
				t.Fatalf("Next(%s, %d) = %d, %d; want the number %d", m, n, next, err, below)
			}
			prev, err := Prev(m, n)
			if upTo == 0 {
				if prev != 0 || err != api.ErrNone {
					t.Fatalf("Prev(%s, %d) = %d, %d; want ErrNone", m, n, prev, err)
				}
			} else if index, _ := Index(m, prev); err != api.OK || !agrees(m, prev) || prev > n || index != upTo-1 {
				t.Fatalf("Prev(%s, %d) = %d, %d; want the number %d", m, n, prev, err, upTo-1)
			}
		}
	}
}

// P3.6: Nth inverts Index, Next and Prev of a number of the mask are it, Least has the index 0 and Greatest the last one, and Count is 10 to the number of X.
func TestConsequences(t *testing.T) {
	for _, m := range append(shortMasks(), longMasks()...) {
		count := int64(1)
		for i := range len(m) {
			if m[i] == 'X' {
				count *= 10
			}
		}
		if got, err := Count(m); got != count || err != api.OK {
			t.Fatalf("Count(%s) = %d, %d; want %d", m, got, err, count)
		}
		least, _ := Least(m)
		greatest, _ := Greatest(m)
		first, e := Index(m, least)
		last, f := Index(m, greatest)
		if first != 0 || last != count-1 || e != 0 || f != 0 {
			t.Fatalf("%s: Least and Greatest have the indices %d, %d; %d, %d", m, first, e, last, f)
		}
		for _, n := range near(m) {
			index, err := Index(m, n)
			if (err == api.OK) != agrees(m, n) {
				t.Fatalf("Index(%s, %d) = %d, %d", m, n, index, err)
			}
			if err != api.OK {
				continue
			}
			for name, f := range map[string]func() (int64, api.Errno){
				"Nth":  func() (int64, api.Errno) { return Nth(m, index) },
				"Next": func() (int64, api.Errno) { return Next(m, n) },
				"Prev": func() (int64, api.Errno) { return Prev(m, n) },
			} {
				if got, err := f(); got != n || err != api.OK {
					t.Fatalf("%s: %s leads from %d to %d, %d", m, name, n, got, err)
				}
			}
		}
	}
}

// P3.6: a mask has a number exactly if Common with the digits of the number is those digits.
func TestHasByCommon(t *testing.T) {
	for _, m := range append(shortMasks(), longMasks()...) {
		for _, n := range near(m) {
			if n < 0 {
				continue
			}
			written := fmt.Sprintf("%0*d", len(m), n)
			got, err := Common(m, written)
			if (err == api.OK && got == written) != Has(m, n) {
				t.Fatalf("Has(%s, %d) = %t, but Common is %q, %d", m, n, Has(m, n), got, err)
			}
		}
	}
}
