package seasons

import (
	"math"
	"math/rand"
	"slices"
	"testing"

	"circa/api"
	"circa/months"
	"circa/years"
)

const (
	most, least = math.MaxInt64, math.MinInt64
	lastYear    = 10_000_000_000_000_000
	lastDay     = 3_652_425_000_000_000_365
	firstDay    = -3_652_425_000_000_000_000
)

// badCodes are none: just below the first code and just above the last one, and far from both.
var badCodes = []int{20, 42, 19, 43, 0, 1, 12, -1, -21, -41, 100, 1<<32 + 21, -1 << 32, math.MaxInt, math.MaxInt - 20, math.MinInt, math.MinInt + 21}

// badYears are none of the calendar.
var badYears = []int64{lastYear + 1, -lastYear - 1, lastYear + 400, -lastYear - 400, 10 * lastYear, most, most - 1, least, least + 1}

// badDays are none of the calendar.
var badDays = []int64{lastDay + 1, lastDay + 60, firstDay - 1, firstDay - 31, 2 * lastDay, 2 * firstDay, most, most - 1, least, least + 1}

// monthsByDefinition returns the months of a code, each as a year (0, or 1: the next one) and a number.
func monthsByDefinition(code int) [][2]int {
	switch code {
	case 21, 25, 31:
		return [][2]int{{0, 3}, {0, 4}, {0, 5}}
	case 22, 26, 32:
		return [][2]int{{0, 6}, {0, 7}, {0, 8}}
	case 23, 27, 29:
		return [][2]int{{0, 9}, {0, 10}, {0, 11}}
	case 24, 28, 30:
		return [][2]int{{0, 12}, {1, 1}, {1, 2}}
	case 33:
		return [][2]int{{0, 1}, {0, 2}, {0, 3}}
	case 34:
		return [][2]int{{0, 4}, {0, 5}, {0, 6}}
	case 35:
		return [][2]int{{0, 7}, {0, 8}, {0, 9}}
	case 36:
		return [][2]int{{0, 10}, {0, 11}, {0, 12}}
	case 37:
		return [][2]int{{0, 1}, {0, 2}, {0, 3}, {0, 4}}
	case 38:
		return [][2]int{{0, 5}, {0, 6}, {0, 7}, {0, 8}}
	case 39:
		return [][2]int{{0, 9}, {0, 10}, {0, 11}, {0, 12}}
	case 40:
		return [][2]int{{0, 1}, {0, 2}, {0, 3}, {0, 4}, {0, 5}, {0, 6}}
	case 41:
		return [][2]int{{0, 7}, {0, 8}, {0, 9}, {0, 10}, {0, 11}, {0, 12}}
	}
	return nil
}

// codes returns all codes.
func codes() []int {
	var list []int
	for code := range 1000 {
		if monthsByDefinition(code) != nil {
			list = append(list, code)
		}
	}
	return list
}

// runByDefinition returns the first and the last day of a code in a year, by going through its months, and whether all of them are of the calendar.
func runByDefinition(y int64, code int) (lo, hi int64, is bool) {
	for i, x := range monthsByDefinition(code) {
		start, err := months.Start(y+int64(x[0]), x[1])
		if err != api.OK {
			return 0, 0, false
		}
		if i == 0 {
			lo = start
		}
		hi, _ = months.End(y+int64(x[0]), x[1])
	}
	return lo, hi, true
}

// days returns the run from a day to another one.
func days(lo, hi int64) api.Run {
	return api.Run{Lo: api.End{Day: lo}, Hi: api.End{Day: hi}}
}

// someYears returns years about 0, at both ends of the calendar, and of all sizes.
func someYears() []int64 {
	list := []int64{1582, 1899, 1900, 1901, 1999, 2000, 2001, 2003, 2004, 2005, -1900, -2000}
	for i := int64(0); i < 10; i++ {
		list = append(list, i, -i-1, lastYear-i, -lastYear+i)
	}
	random := rand.New(rand.NewSource(7))
	for size := int64(10); size < lastYear; size *= 7 {
		y := random.Int63n(size)
		list = append(list, y, -y)
	}
	return list
}

// P7.1: the codes are the numbers from 21 to 41.
func TestCheck(t *testing.T) {
	list := codes()
	if list[0] != 21 || list[len(list)-1] != 41 || len(list) != 21 {
		t.Fatalf("the codes are %v", list)
	}
	for _, code := range list {
		if err := Check(code); err != api.OK {
			t.Errorf("Check(%d) = %d", code, err)
		}
	}
	for _, code := range badCodes {
		if err := Check(code); err != api.ErrMonth {
			t.Errorf("Check(%d) = %d; want ErrMonth", code, err)
		}
	}
}

// P7.1: the first month of a code, and how many there are.
func TestMonths(t *testing.T) {
	for _, x := range []struct{ code, from, many int }{
		{21, 3, 3}, {22, 6, 3}, {23, 9, 3}, {24, 12, 3},
		{25, 3, 3}, {26, 6, 3}, {27, 9, 3}, {28, 12, 3},
		{29, 9, 3}, {30, 12, 3}, {31, 3, 3}, {32, 6, 3},
		{33, 1, 3}, {34, 4, 3}, {35, 7, 3}, {36, 10, 3},
		{37, 1, 4}, {38, 5, 4}, {39, 9, 4},
		{40, 1, 6}, {41, 7, 6},
	} {
		if from, many, err := Months(x.code); from != x.from || many != x.many || err != api.OK {
			t.Errorf("Months(%d) = %d, %d, %d; want %d, %d", x.code, from, many, err, x.from, x.many)
		}
	}
	for _, code := range badCodes {
		if from, many, err := Months(code); from != 0 || many != 0 || err != api.ErrMonth {
			t.Errorf("Months(%d) = %d, %d, %d; want ErrMonth", code, from, many, err)
		}
	}
}

// P7.2: runs in leap years and in others, and those whose months reach into the next year.
func TestRun(t *testing.T) {
	for _, x := range []struct {
		y      int64
		code   int
		lo, hi int64
	}{
		{2000, 21, 730545, 730636},
		{1999, 24, 730454, 730544}, // to a 29th of February
		{1998, 24, 730089, 730178}, // to a 28th
		{1999, 28, 730454, 730544},
		{1999, 30, 730454, 730544},
		{2000, 33, 730485, 730575}, // has a 29th of February
		{1999, 33, 730120, 730209},
		{2000, 37, 730485, 730605},
		{2000, 40, 730485, 730666},
		{0, 22, 152, 243},
		{0, 40, 0, 181},
		{-1, 24, -31, 59}, // into the year 0, a leap year
		{-1, 41, -184, -1},
		{0, 24, 335, 424},
		{1900, 33, 693961, 694050}, // no leap year
		{1899, 30, 693930, 694019},
	} {
		if got, err := Run(x.y, x.code); got != days(x.lo, x.hi) || err != api.OK {
			t.Errorf("Run(%d, %d) = %v, %d; want %d to %d", x.y, x.code, got, err, x.lo, x.hi)
		}
	}
	for _, y := range someYears() {
		for _, code := range codes() {
			lo, hi, is := runByDefinition(y, code)
			want, wanted := days(lo, hi), api.OK
			if !is {
				want, wanted = api.Run{}, api.ErrYear
			}
			if got, err := Run(y, code); got != want || err != wanted {
				t.Errorf("Run(%d, %d) = %v, %d; want %v, %d", y, code, got, err, want, wanted)
			}
		}
	}
}

// P7.2: the first and the last runs of the calendar; a run whose last month is none of it is ErrYear.
func TestRunAtEnds(t *testing.T) {
	for _, x := range []struct {
		y    int64
		code int
		want api.Run
		err  api.Errno
	}{
		{lastYear, 24, api.Run{}, api.ErrYear},
		{lastYear, 28, api.Run{}, api.ErrYear},
		{lastYear, 30, api.Run{}, api.ErrYear},
		{lastYear, 36, days(lastDay-91, lastDay), api.OK},
		{lastYear, 39, days(lastDay-121, lastDay), api.OK},
		{lastYear, 41, days(lastDay-183, lastDay), api.OK},
		{lastYear, 23, days(lastDay-121, lastDay-31), api.OK},
		{lastYear - 1, 24, days(lastDay-365-31, lastDay-306), api.OK},
		{-lastYear, 33, days(firstDay, firstDay+90), api.OK},
		{-lastYear, 37, days(firstDay, firstDay+120), api.OK},
		{-lastYear, 40, days(firstDay, firstDay+181), api.OK},
		{-lastYear, 24, days(firstDay+335, firstDay+424), api.OK},
		{-lastYear, 21, days(firstDay+60, firstDay+151), api.OK},
	} {
		if got, err := Run(x.y, x.code); got != x.want || err != x.err {
			t.Errorf("Run(%d, %d) = %v, %d; want %v, %d", x.y, x.code, got, err, x.want, x.err)
		}
	}
}

// P7.2: what is no code is ErrMonth, of any year; then what is no year is ErrYear.
func TestErrorsOfRun(t *testing.T) {
	for _, code := range badCodes {
		for _, y := range append([]int64{0, 2000, lastYear, -lastYear}, badYears...) {
			if got, err := Run(y, code); got != (api.Run{}) || err != api.ErrMonth {
				t.Errorf("Run(%d, %d) = %v, %d; want ErrMonth", y, code, got, err)
			}
		}
	}
	for _, code := range codes() {
		for _, y := range badYears {
			if got, err := Run(y, code); got != (api.Run{}) || err != api.ErrYear {
				t.Errorf("Run(%d, %d) = %v, %d; want ErrYear", y, code, got, err)
			}
		}
	}
}

// P7.3: the years of days, of the first and the last ones of a run and of those beside them.
func TestOf(t *testing.T) {
	for _, x := range []struct {
		day  int64
		code int
		y    int64
		is   bool
	}{
		{730485, 24, 1999, true}, {730485, 33, 2000, true}, {730485, 21, 0, false},
		{730454, 24, 1999, true}, {730453, 24, 0, false}, {730544, 24, 1999, true}, {730545, 24, 0, false},
		{730545, 21, 2000, true}, {730544, 21, 0, false}, {730636, 31, 2000, true}, {730637, 25, 0, false},
		{0, 24, -1, true}, {59, 30, -1, true}, {60, 28, 0, false}, {-1, 28, -1, true}, {-31, 28, -1, true}, {-32, 28, 0, false},
		{366, 24, 0, true}, {365, 24, 0, true}, {334, 24, 0, false}, {0, 40, 0, true}, {0, 41, 0, false},
		{-1, 41, -1, true}, {-1, 36, -1, true}, {-1, 33, 0, false},
	} {
		if y, is, err := Of(x.day, x.code); y != x.y || is != x.is || err != api.OK {
			t.Errorf("Of(%d, %d) = %d, %t, %d; want %d, %t", x.day, x.code, y, is, err, x.y, x.is)
		}
	}
}

// P7.3: the days at both ends of the calendar that have months of a code, of which others are none of the calendar, have no run of it.
func TestOfAtEnds(t *testing.T) {
	for _, code := range []int{24, 28, 30} {
		for day := int64(lastDay - 31); day <= lastDay; day++ {
			if y, is, err := Of(day, code); y != 0 || is || err != api.OK {
				t.Errorf("Of(%d, %d) = %d, %t, %d; want false", day, code, y, is, err)
			}
		}
		for day := int64(firstDay); day < firstDay+335; day++ {
			if y, is, err := Of(day, code); y != 0 || is || err != api.OK {
				t.Errorf("Of(%d, %d) = %d, %t, %d; want false", day, code, y, is, err)
			}
		}
		if y, is, err := Of(firstDay+335, code); y != -lastYear || !is || err != api.OK {
			t.Errorf("Of(%d, %d) = %d, %t, %d", int64(firstDay+335), code, y, is, err)
		}
	}
	for _, code := range []int{36, 39, 41} {
		if y, is, err := Of(lastDay, code); y != lastYear || !is || err != api.OK {
			t.Errorf("Of(%d, %d) = %d, %t, %d", int64(lastDay), code, y, is, err)
		}
	}
	for _, code := range []int{33, 37, 40} {
		if y, is, err := Of(firstDay, code); y != -lastYear || !is || err != api.OK {
			t.Errorf("Of(%d, %d) = %d, %t, %d", int64(firstDay), code, y, is, err)
		}
	}
}

// P7.3: what is no code is ErrMonth, of any day; then a day outside of the calendar is ErrYear.
func TestErrorsOfOf(t *testing.T) {
	for _, code := range badCodes {
		for _, day := range append([]int64{0, 730485, lastDay, firstDay}, badDays...) {
			if y, is, err := Of(day, code); y != 0 || is || err != api.ErrMonth {
				t.Errorf("Of(%d, %d) = %d, %t, %d; want ErrMonth", day, code, y, is, err)
			}
		}
	}
	for _, code := range codes() {
		for _, day := range badDays {
			if y, is, err := Of(day, code); y != 0 || is || err != api.ErrYear {
				t.Errorf("Of(%d, %d) = %d, %t, %d; want ErrYear", day, code, y, is, err)
			}
		}
	}
}

// P7.4: the codes of days, ascending, without spare capacity; at both ends of the calendar those of winter are missing.
func TestCodes(t *testing.T) {
	for _, x := range []struct {
		day  int64
		want []int
	}{
		{730485, []int{24, 28, 30, 33, 37, 40}},
		{730545, []int{21, 25, 31, 33, 37, 40}},
		{152, []int{22, 26, 32, 34, 38, 40}},
		{-1, []int{24, 28, 30, 36, 39, 41}},
		{-32, []int{23, 27, 29, 36, 39, 41}},
		{lastDay, []int{36, 39, 41}},
		{lastDay - 30, []int{36, 39, 41}},
		{lastDay - 31, []int{23, 27, 29, 36, 39, 41}},
		{firstDay, []int{33, 37, 40}},
		{firstDay + 59, []int{33, 37, 40}},
		{firstDay + 60, []int{21, 25, 31, 33, 37, 40}},
	} {
		got, err := Codes(x.day)
		if !slices.Equal(got, x.want) || err != api.OK {
			t.Errorf("Codes(%d) = %v, %d; want %v", x.day, got, err, x.want)
		}
		if len(got) != cap(got) {
			t.Errorf("Codes(%d) has room for %d codes, and %d of them", x.day, cap(got), len(got))
		}
	}
	for _, day := range badDays {
		if got, err := Codes(day); len(got) != 0 || err != api.ErrYear {
			t.Errorf("Codes(%d) = %v, %d; want ErrYear", day, got, err)
		}
	}
}

// P7.3, P7.4, P7.5: Of says a year exactly if the run of that year has the day, and Codes has exactly the codes of which Of says one.
func TestDaysOfRuns(t *testing.T) {
	for _, x := range [][2]int64{{-1600, 1600}, {730485 - 800, 730485 + 800}, {lastDay - 1600, lastDay}, {firstDay, firstDay + 1600}} {
		for day := x[0]; day <= x[1]; day++ {
			var list []int
			for _, code := range codes() {
				y, is := yearByDefinition(day, code)
				if got, said, err := Of(day, code); got != y || said != is || err != api.OK {
					t.Fatalf("Of(%d, %d) = %d, %t, %d; want %d, %t", day, code, got, said, err, y, is)
				}
				if is {
					list = append(list, code)
				}
			}
			if got, err := Codes(day); !slices.Equal(got, list) || err != api.OK {
				t.Fatalf("Codes(%d) = %v, %d; want %v", day, got, err, list)
			}
		}
	}
}

// yearByDefinition returns the year whose run of a code has a day, by trying the years about the day's.
func yearByDefinition(day int64, code int) (int64, bool) {
	near, _ := years.Of(day)
	for y := near - 2; y <= near+2; y++ {
		if lo, hi, is := runByDefinition(y, code); is && lo <= day && day <= hi {
			return y, true
		}
	}
	return 0, false
}

// P7.5: for years of all sizes, Of says the year on the first and on the last day of a run, and not beside them.
func TestEndsOfRuns(t *testing.T) {
	for _, y := range someYears() {
		for _, code := range codes() {
			run, err := Run(y, code)
			if err != api.OK {
				continue
			}
			for _, day := range []int64{run.Lo.Day, run.Lo.Day + 45, run.Hi.Day} {
				if got, is, err := Of(day, code); got != y || !is || err != api.OK {
					t.Errorf("Of(%d, %d) = %d, %t, %d; want %d", day, code, got, is, err, y)
				}
			}
			for _, day := range []int64{run.Lo.Day - 1, run.Hi.Day + 1} {
				if got, is, _ := Of(day, code); got != 0 || is {
					t.Errorf("Of(%d, %d) = %d, %t; the run is from %d to %d", day, code, got, is, run.Lo.Day, run.Hi.Day)
				}
			}
		}
	}
}

// P7.5: the quarters of a year have each of its days once, and so have the thirds and the halves.
func TestPartsOfYears(t *testing.T) {
	for _, y := range someYears() {
		for _, list := range [][]int{{33, 34, 35, 36}, {37, 38, 39}, {40, 41}} {
			next, _ := years.Start(y)
			for _, code := range list {
				run, err := Run(y, code)
				if run.Lo.Day != next || err != api.OK {
					t.Fatalf("the part %d of %d begins at %d, %d; want %d", code, y, run.Lo.Day, err, next)
				}
				next = run.Hi.Day + 1
			}
			if end, _ := years.End(y); next != end+1 {
				t.Fatalf("the parts %v of %d end ahead of %d; want %d", list, y, next, end+1)
			}
		}
	}
}

// P7.5: the four seasons of a row come one behind the other, and the first one of a year behind the last one of the year ahead.
func TestRowsOfSeasons(t *testing.T) {
	for _, row := range [][]int{{21, 22, 23, 24}, {25, 26, 27, 28}, {31, 32, 29, 30}} {
		for _, y := range []int64{0, -1, 1999, 2000, lastYear - 2, -lastYear + 1} {
			ahead, _ := Run(y-1, row[3])
			for _, code := range row {
				run, err := Run(y, code)
				if run.Lo.Day != ahead.Hi.Day+1 || err != api.OK {
					t.Fatalf("the season %d of %d is %v, %d; the one ahead of it ends at %d", code, y, run, err, ahead.Hi.Day)
				}
				ahead = run
			}
		}
	}
}
