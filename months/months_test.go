package months

import (
	"math"
	"math/rand"
	"slices"
	"testing"

	"circa/api"
	"circa/years"
)

const (
	most, least = math.MaxInt64, math.MinInt64
	lastYear    = 10_000_000_000_000_000
	lastStart   = 3_652_425_000_000_000_000 // of the years -lastYear and lastYear, without the sign
	lastDay     = lastStart + 365           // lastYear is a leap year
	reach       = 10_000                    // how many months a walk goes
	allMonths   = 240_000_000_000_000_012   // of the calendar
)

// known is a month that a walk has found.
type known struct {
	year  int64
	m     int
	start int64
	days  int
}

// end returns the last day of a month.
func (x known) end() int64 {
	return x.start + int64(x.days) - 1
}

// daysByDefinition returns how many days a month has.
func daysByDefinition(y int64, m int) int {
	switch m {
	case 4, 6, 9, 11:
		return 30
	case 2:
		if y%4 == 0 && (y%100 != 0 || y%400 == 0) {
			return 29
		}
		return 28
	default:
		return 31
	}
}

// forward walks from the first month of a year whose start is known, month by month.
func forward(y, start int64) []known {
	var list []known
	m := 1
	for range reach {
		days := daysByDefinition(y, m)
		list = append(list, known{y, m, start, days})
		start += int64(days)
		if m++; m > 12 {
			y, m = y+1, 1
		}
	}
	return list
}

// backward walks from the first month of a year whose start is known, month by month, and begins with the month ahead of it.
func backward(y, start int64) []known {
	var list []known
	m := 1
	for range reach {
		if m--; m < 1 {
			y, m = y-1, 12
		}
		days := daysByDefinition(y, m)
		start -= int64(days)
		list = append(list, known{y, m, start, days})
	}
	return list
}

// walked returns the months about the year 0 and those at both ends of the calendar.
func walked() []known {
	return slices.Concat(
		backward(0, 0), forward(0, 0),
		forward(-lastYear, -lastStart),
		backward(lastYear, lastStart), forward(lastYear, lastStart)[:12],
	)
}

// scattered returns months of years of all sizes: each is as far from a month of a walk as many times 400 years are long.
func scattered() []known {
	random := rand.New(rand.NewSource(5))
	var list []known
	near := forward(0, 0)
	for cycles := int64(1); cycles < lastYear/400-10; cycles = cycles*3 + random.Int63n(3) {
		for range 20 {
			x := near[random.Intn(len(near))]
			list = append(list,
				known{x.year + 400*cycles, x.m, x.start + 146097*cycles, x.days},
				known{x.year - 400*cycles, x.m, x.start - 146097*cycles, x.days})
		}
	}
	return list
}

// fault is a month that is none, and why.
type fault struct {
	y   int64
	m   int
	err api.Errno
}

// faults returns years that are none, numbers that are none, and both at once.
func faults() []fault {
	var list []fault
	badYears := []int64{lastYear + 1, -lastYear - 1, lastYear + 400, 10 * lastYear, -10 * lastYear, lastStart, most, most - 1, least, least + 1}
	badNumbers := []int{0, 13, -1, 14, 24, -12, 21, 1 << 32, 1<<32 + 1, math.MaxInt, math.MinInt}
	for _, y := range badYears {
		for _, m := range append([]int{1, 2, 12}, badNumbers...) {
			list = append(list, fault{y, m, api.ErrYear})
		}
	}
	for _, m := range badNumbers {
		for _, y := range []int64{0, 1, -1, 2000, lastYear, -lastYear} {
			list = append(list, fault{y, m, api.ErrMonth})
		}
	}
	return list
}

// P5.1: the months are those from 1 to 12 of the years of the calendar.
func TestCheck(t *testing.T) {
	for _, y := range []int64{0, 1, -1, 1999, 2000, -2000, lastYear, -lastYear} {
		for m := 1; m <= 12; m++ {
			if err := Check(y, m); err != api.OK {
				t.Errorf("Check(%d, %d) = %d", y, m, err)
			}
		}
	}
	for _, x := range faults() {
		if err := Check(x.y, x.m); err != x.err {
			t.Errorf("Check(%d, %d) = %d; want %d", x.y, x.m, err, x.err)
		}
	}
}

// P5.1, P5.2: what is no month has the error of Check, and everything else is zero.
func TestErrorsOfMonths(t *testing.T) {
	for _, x := range faults() {
		if days, err := Len(x.y, x.m); days != 0 || err != x.err {
			t.Errorf("Len(%d, %d) = %d, %d; want %d", x.y, x.m, days, err, x.err)
		}
		if day, err := Start(x.y, x.m); day != 0 || err != x.err {
			t.Errorf("Start(%d, %d) = %d, %d; want %d", x.y, x.m, day, err, x.err)
		}
		if day, err := End(x.y, x.m); day != 0 || err != x.err {
			t.Errorf("End(%d, %d) = %d, %d; want %d", x.y, x.m, day, err, x.err)
		}
	}
}

// P5.1: the lengths of months, and those of February in leap years and in others.
func TestLen(t *testing.T) {
	for i, days := range []int{31, 28, 31, 30, 31, 30, 31, 31, 30, 31, 30, 31} {
		if got, err := Len(2001, i+1); got != days || err != api.OK {
			t.Errorf("Len(2001, %d) = %d, %d; want %d", i+1, got, err, days)
		}
	}
	for _, x := range []struct {
		y    int64
		want int
	}{
		{0, 29}, {1, 28}, {4, 29}, {-1, 28}, {-4, 29}, {100, 28}, {-100, 28}, {400, 29}, {-400, 29},
		{1582, 28}, {1900, 28}, {2000, 29}, {2023, 28}, {2024, 29}, {2100, 28},
		{lastYear, 29}, {lastYear - 1, 28}, {lastYear - 4, 29}, {lastYear - 100, 28},
		{-lastYear, 29}, {-lastYear + 1, 28}, {-lastYear + 4, 29}, {-lastYear + 100, 28},
	} {
		if got, err := Len(x.y, 2); got != x.want || err != api.OK {
			t.Errorf("Len(%d, 2) = %d, %d; want %d", x.y, got, err, x.want)
		}
	}
	for _, x := range append(walked(), scattered()...) {
		if got, err := Len(x.year, x.m); got != x.days || err != api.OK {
			t.Fatalf("Len(%d, %d) = %d, %d; want %d", x.year, x.m, got, err, x.days)
		}
	}
}

// P5.2: the first and the last days of months, among them the first and the last month of a year and of the calendar.
func TestStartEnd(t *testing.T) {
	for _, x := range []struct {
		y          int64
		m          int
		start, end int64
	}{
		{0, 1, 0, 30},
		{0, 2, 31, 59},
		{0, 3, 60, 90},
		{0, 12, 335, 365},
		{1, 1, 366, 396},
		{1, 2, 397, 424},
		{-1, 1, -365, -335},
		{-1, 12, -31, -1},
		{1970, 1, 719528, 719558},
		{1970, 12, 719862, 719892},
		{2000, 2, 730516, 730544},
		{lastYear, 1, lastStart, lastStart + 30},
		{lastYear, 12, lastDay - 30, lastDay},
		{-lastYear, 1, -lastStart, -lastStart + 30},
		{-lastYear, 12, -lastStart + 335, -lastStart + 365},
	} {
		if day, err := Start(x.y, x.m); day != x.start || err != api.OK {
			t.Errorf("Start(%d, %d) = %d, %d; want %d", x.y, x.m, day, err, x.start)
		}
		if day, err := End(x.y, x.m); day != x.end || err != api.OK {
			t.Errorf("End(%d, %d) = %d, %d; want %d", x.y, x.m, day, err, x.end)
		}
	}
	for _, x := range append(walked(), scattered()...) {
		if day, err := Start(x.year, x.m); day != x.start || err != api.OK {
			t.Fatalf("Start(%d, %d) = %d, %d; want %d", x.year, x.m, day, err, x.start)
		}
		if day, err := End(x.year, x.m); day != x.end() || err != api.OK {
			t.Fatalf("End(%d, %d) = %d, %d; want %d", x.year, x.m, day, err, x.end())
		}
	}
}

// P5.3: the months of days, of the first and the last ones of a month and of the calendar.
func TestOf(t *testing.T) {
	for _, x := range []struct {
		day, y int64
		m      int
	}{
		{0, 0, 1}, {30, 0, 1}, {31, 0, 2}, {59, 0, 2}, {60, 0, 3}, {365, 0, 12}, {366, 1, 1},
		{424, 1, 2}, {425, 1, 3}, {-1, -1, 12}, {-31, -1, 12}, {-32, -1, 11}, {-365, -1, 1}, {-366, -2, 12},
		{719528, 1970, 1}, {730544, 2000, 2}, {730545, 2000, 3},
		{lastDay, lastYear, 12}, {lastDay - 30, lastYear, 12}, {lastDay - 31, lastYear, 11}, {lastStart, lastYear, 1}, {lastStart - 1, lastYear - 1, 12},
		{-lastStart, -lastYear, 1}, {-lastStart + 30, -lastYear, 1}, {-lastStart + 31, -lastYear, 2},
	} {
		if y, m, err := Of(x.day); y != x.y || m != x.m || err != api.OK {
			t.Errorf("Of(%d) = %d, %d, %d; want %d, %d", x.day, y, m, err, x.y, x.m)
		}
	}
	for _, x := range append(walked(), scattered()...) {
		for _, day := range []int64{x.start, x.start + 1, x.start + 15, x.start + 27, x.end()} {
			if y, m, err := Of(day); y != x.year || m != x.m || err != api.OK {
				t.Fatalf("Of(%d) = %d, %d, %d; want %d, %d", day, y, m, err, x.year, x.m)
			}
		}
	}
}

// P5.3: days beyond the calendar are ErrYear.
func TestOfNoDay(t *testing.T) {
	for _, day := range []int64{lastDay + 1, lastDay + 31, -lastStart - 1, -lastStart - 31, 2 * lastStart, -2 * lastStart, most, most - 1, least, least + 1} {
		if y, m, err := Of(day); y != 0 || m != 0 || err != api.ErrYear {
			t.Errorf("Of(%d) = %d, %d, %d; want ErrYear", day, y, m, err)
		}
	}
}

// P5.6: the days that a month has are exactly those whose month it is, by Of.
func TestDaysOfMonths(t *testing.T) {
	for _, y := range []int64{0, 1, -1, -4, 1900, 2000, lastYear, -lastYear} {
		for wanted := 1; wanted <= 12; wanted++ {
			start, _ := Start(y, wanted)
			end, _ := End(y, wanted)
			for day := start - 400; day <= end+400; day++ {
				z, m, err := Of(day)
				if has := day >= start && day <= end; has != (z == y && m == wanted && err == api.OK) {
					t.Fatalf("%d, %d is from %d to %d, but Of(%d) = %d, %d, %d", y, wanted, start, end, day, z, m, err)
				}
			}
		}
	}
}

// P5.6: the twelve months of a year have its days: from the first one to the last one, and as many as it has.
func TestMonthsOfYears(t *testing.T) {
	for _, x := range append(walked(), scattered()...) {
		first, _ := years.Start(x.year)
		last, _ := years.End(x.year)
		start, e := Start(x.year, 1)
		end, f := End(x.year, 12)
		if start != first || end != last || e != api.OK || f != api.OK {
			t.Fatalf("%d is from %d to %d, its months from %d, %d to %d, %d", x.year, first, last, start, e, end, f)
		}
		var days int64
		for m := 1; m <= 12; m++ {
			n, _ := Len(x.year, m)
			days += int64(n)
		}
		if days != last-first+1 {
			t.Fatalf("the months of %d have %d days", x.year, days)
		}
	}
}

// P5.6: the month one on starts the day after End, and is the one behind in the walk.
func TestMonthsFollow(t *testing.T) {
	for _, list := range [][]known{forward(0, 0), forward(-lastYear, -lastStart), forward(lastYear, lastStart)[:12]} {
		for i, x := range list[1:] {
			before := list[i]
			y, m, e := Add(before.year, before.m, 1)
			end, f := End(before.year, before.m)
			start, g := Start(y, m)
			if y != x.year || m != x.m || start != end+1 || e+f+g != 0 {
				t.Fatalf("End(%d, %d) = %d, but %d, %d starts with %d; errors %d %d %d", before.year, before.m, end, y, m, start, e, f, g)
			}
		}
	}
}
