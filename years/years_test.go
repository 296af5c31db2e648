package years

import (
	"math"
	"math/rand"
	"slices"
	"testing"

	"circa/api"
)

const (
	most, least = math.MaxInt64, math.MinInt64
	lastYear    = 10_000_000_000_000_000
	lastStart   = 3_652_425_000_000_000_000 // of the years -lastYear and lastYear, without the sign
	lastDay     = lastStart + 365           // lastYear is a leap year
	reach       = 2500                      // how far a walk goes
)

// known is a year that a walk has found.
type known struct {
	year, start, days int64
}

// leapByDefinition is the chapter's definition of a leap year.
func leapByDefinition(y int64) bool {
	return y%4 == 0 && (y%100 != 0 || y%400 == 0)
}

// daysByDefinition returns how many days a year has.
func daysByDefinition(y int64) int64 {
	if leapByDefinition(y) {
		return 366
	}
	return 365
}

// forward walks from a year whose start is known, year by year.
func forward(y, start int64) []known {
	var list []known
	for range reach {
		list = append(list, known{y, start, daysByDefinition(y)})
		start += daysByDefinition(y)
		y++
	}
	return list
}

// backward walks from a year whose start is known, year by year, and begins with the year ahead of it.
func backward(y, start int64) []known {
	var list []known
	for range reach {
		y--
		start -= daysByDefinition(y)
		list = append(list, known{y, start, daysByDefinition(y)})
	}
	return list
}

// walked returns the years about 0 and those at both ends of the calendar.
func walked() []known {
	return slices.Concat(
		backward(0, 0), forward(0, 0),
		forward(-lastYear, -lastStart),
		backward(lastYear, lastStart), []known{{lastYear, lastStart, 366}},
	)
}

// scattered returns years of all sizes: each is as far from a year of a walk as many times 400 years are long.
func scattered() []known {
	random := rand.New(rand.NewSource(4))
	var list []known
	near := forward(0, 0)
	for cycles := int64(1); cycles < lastYear/400-10; cycles = cycles*3 + random.Int63n(3) {
		for range 20 {
			x := near[random.Intn(len(near))]
			list = append(list,
				known{x.year + 400*cycles, x.start + 146097*cycles, x.days},
				known{x.year - 400*cycles, x.start - 146097*cycles, x.days})
		}
	}
	return list
}

// noYears returns numbers that are beyond the calendar.
func noYears() []int64 {
	return []int64{lastYear + 1, -lastYear - 1, lastYear + 4, -lastYear - 400, 10 * lastYear, -10 * lastYear, lastStart, most, most - 1, least, least + 1}
}

// leapsByCounting returns how many leap years there are from a year to another one.
func leapsByCounting(from, to int64) int64 {
	var count int64
	for y := from; y <= to; y++ {
		if leapByDefinition(y) {
			count++
		}
	}
	return count
}

// P4.1: the years are those from -10^16 to 10^16.
func TestCheck(t *testing.T) {
	for _, y := range []int64{0, 1, -1, 4, 1582, 9999, -9999, lastYear, lastYear - 1, -lastYear, -lastYear + 1} {
		if err := Check(y); err != api.OK {
			t.Errorf("Check(%d) = %d", y, err)
		}
	}
	for _, y := range noYears() {
		if err := Check(y); err != api.ErrYear {
			t.Errorf("Check(%d) = %d; want ErrYear", y, err)
		}
	}
}

// P4.1, P4.2: what is no year is ErrYear, and everything else is zero.
func TestErrorsOfYears(t *testing.T) {
	for _, y := range noYears() {
		if leap, err := Leap(y); leap || err != api.ErrYear {
			t.Errorf("Leap(%d) = %t, %d; want ErrYear", y, leap, err)
		}
		if days, err := Len(y); days != 0 || err != api.ErrYear {
			t.Errorf("Len(%d) = %d, %d; want ErrYear", y, days, err)
		}
		if day, err := Start(y); day != 0 || err != api.ErrYear {
			t.Errorf("Start(%d) = %d, %d; want ErrYear", y, day, err)
		}
		if day, err := End(y); day != 0 || err != api.ErrYear {
			t.Errorf("End(%d) = %d, %d; want ErrYear", y, day, err)
		}
	}
}

// P4.1: leap years among those that 4, 100 and 400 divide, on both sides of the year 0 and at the ends of the calendar.
func TestLeapLen(t *testing.T) {
	for _, x := range []struct {
		y    int64
		leap bool
	}{
		{0, true}, {1, false}, {2, false}, {3, false}, {4, true},
		{-1, false}, {-2, false}, {-3, false}, {-4, true},
		{100, false}, {200, false}, {300, false}, {400, true},
		{-100, false}, {-200, false}, {-300, false}, {-400, true},
		{1582, false}, {1896, true}, {1900, false}, {1904, true}, {1996, true}, {2000, true}, {2024, true}, {2100, false},
		{-1900, false}, {-2000, true}, {-2024, true},
		{lastYear, true}, {lastYear - 1, false}, {lastYear - 4, true}, {lastYear - 100, false}, {lastYear - 400, true},
		{-lastYear, true}, {-lastYear + 1, false}, {-lastYear + 4, true}, {-lastYear + 100, false}, {-lastYear + 400, true},
	} {
		days := int64(365)
		if x.leap {
			days = 366
		}
		if leap, err := Leap(x.y); leap != x.leap || err != api.OK {
			t.Errorf("Leap(%d) = %t, %d", x.y, leap, err)
		}
		if got, err := Len(x.y); got != days || err != api.OK {
			t.Errorf("Len(%d) = %d, %d; want %d", x.y, got, err, days)
		}
	}
	for _, x := range append(walked(), scattered()...) {
		if leap, err := Leap(x.year); leap != (x.days == 366) || err != api.OK {
			t.Fatalf("Leap(%d) = %t, %d", x.year, leap, err)
		}
		if days, err := Len(x.year); days != x.days || err != api.OK {
			t.Fatalf("Len(%d) = %d, %d; want %d", x.year, days, err, x.days)
		}
	}
}

// P4.2: the first and the last days of years, among them those about the year 0 and those of the first and the last year.
func TestStartEnd(t *testing.T) {
	for _, x := range []struct {
		y, start, end int64
	}{
		{0, 0, 365},
		{1, 366, 730},
		{-1, -365, -1},
		{4, 1461, 1826},
		{-4, -1461, -1096},
		{100, 36525, 36889},
		{400, 146097, 146462},
		{-400, -146097, -145732},
		{1970, 719528, 719892},
		{1999, 730120, 730484},
		{2000, 730485, 730850},
		{lastYear, lastStart, lastDay},
		{-lastYear, -lastStart, -lastStart + 365},
		{lastYear - 1, lastStart - 365, lastStart - 1},
	} {
		if day, err := Start(x.y); day != x.start || err != api.OK {
			t.Errorf("Start(%d) = %d, %d; want %d", x.y, day, err, x.start)
		}
		if day, err := End(x.y); day != x.end || err != api.OK {
			t.Errorf("End(%d) = %d, %d; want %d", x.y, day, err, x.end)
		}
	}
	for _, x := range append(walked(), scattered()...) {
		if day, err := Start(x.year); day != x.start || err != api.OK {
			t.Fatalf("Start(%d) = %d, %d; want %d", x.year, day, err, x.start)
		}
		if day, err := End(x.year); day != x.start+x.days-1 || err != api.OK {
			t.Fatalf("End(%d) = %d, %d; want %d", x.year, day, err, x.start+x.days-1)
		}
	}
}

// P4.3: the years of days, of the first and the last ones of a year and of the calendar.
func TestOf(t *testing.T) {
	for _, x := range []struct {
		day, want int64
	}{
		{0, 0}, {1, 0}, {365, 0}, {366, 1}, {730, 1}, {731, 2},
		{-1, -1}, {-365, -1}, {-366, -2},
		{146096, 399}, {146097, 400}, {-146097, -400}, {-146098, -401},
		{719528, 1970}, {730484, 1999}, {730485, 2000}, {730850, 2000}, {730851, 2001},
		{lastDay, lastYear}, {lastStart, lastYear}, {lastStart - 1, lastYear - 1},
		{-lastStart, -lastYear}, {-lastStart + 365, -lastYear}, {-lastStart + 366, -lastYear + 1},
	} {
		if y, err := Of(x.day); y != x.want || err != api.OK {
			t.Errorf("Of(%d) = %d, %d; want %d", x.day, y, err, x.want)
		}
	}
	for _, x := range append(walked(), scattered()...) {
		for _, day := range []int64{x.start, x.start + 1, x.start + 180, x.start + 364, x.start + x.days - 1} {
			if y, err := Of(day); y != x.year || err != api.OK {
				t.Fatalf("Of(%d) = %d, %d; want %d", day, y, err, x.year)
			}
		}
	}
}

// P4.3: days beyond the calendar are ErrYear.
func TestOfNoDay(t *testing.T) {
	for _, day := range []int64{lastDay + 1, lastDay + 2, -lastStart - 1, -lastStart - 2, 2 * lastStart, -2 * lastStart, most, most - 1, least, least + 1} {
		if y, err := Of(day); y != 0 || err != api.ErrYear {
			t.Errorf("Of(%d) = %d, %d; want ErrYear", day, y, err)
		}
	}
}

// P4.4: how many leap years there are, with both ends, and none if the ends are the other way round.
func TestLeaps(t *testing.T) {
	for _, x := range []struct {
		from, to, want int64
	}{
		{1, 400, 97}, {-4, 4, 3}, {5, 4, 0}, {0, 0, 1}, {1, 1, 0}, {4, 4, 1}, {-4, -4, 1}, {100, 100, 0},
		{1, 3, 0}, {1, 4, 1}, {-1, 0, 1}, {-3, -1, 0}, {-4, -1, 1}, {0, 3, 1}, {0, 4, 2},
		{1900, 2000, 25}, {4, 0, 0}, {4, -4, 0}, {lastYear, -lastYear, 0},
		{lastYear, lastYear, 1}, {-lastYear, -lastYear, 1},
		{1, lastYear, 2_425_000_000_000_000},
		{-lastYear, -1, 2_425_000_000_000_000},
		{-lastYear, lastYear, 4_850_000_000_000_001},
	} {
		if n, err := Leaps(x.from, x.to); n != x.want || err != api.OK {
			t.Errorf("Leaps(%d, %d) = %d, %d; want %d", x.from, x.to, n, err, x.want)
		}
	}
	for _, middle := range []int64{0, 100, -100, 400, -400, 2000, lastYear - 120, -lastYear + 120} {
		for from := middle - 110; from <= middle+110; from += 3 {
			for to := middle - 110; to <= middle+110; to++ {
				if n, err := Leaps(from, to); n != leapsByCounting(from, to) || err != api.OK {
					t.Fatalf("Leaps(%d, %d) = %d, %d; want %d", from, to, n, err, leapsByCounting(from, to))
				}
			}
		}
	}
}

// P4.4: what is no year is ErrYear at both places, even where the count would be 0.
func TestErrorsOfLeaps(t *testing.T) {
	for _, no := range noYears() {
		for _, y := range []int64{0, 1, lastYear, -lastYear, lastYear + 1, -lastYear - 1, most, least} {
			if n, err := Leaps(no, y); n != 0 || err != api.ErrYear {
				t.Errorf("Leaps(%d, %d) = %d, %d; want ErrYear", no, y, n, err)
			}
			if n, err := Leaps(y, no); n != 0 || err != api.ErrYear {
				t.Errorf("Leaps(%d, %d) = %d, %d; want ErrYear", y, no, n, err)
			}
		}
	}
}

// P4.5: the days that a year has are exactly those whose year it is, by Of.
func TestDaysOfYears(t *testing.T) {
	for _, y := range []int64{0, 1, 3, 4, -1, -4, 99, 100, 399, 400, -400, 1900, 2000, lastYear, -lastYear} {
		start, _ := Start(y)
		end, _ := End(y)
		for day := start - 400; day <= end+400; day++ {
			got, err := Of(day)
			if has := day >= start && day <= end; has != (got == y && err == api.OK) {
				t.Fatalf("%d is from %d to %d, but Of(%d) = %d, %d", y, start, end, day, got, err)
			}
		}
	}
}

// P4.5: the year after begins the day after End.
func TestYearsFollow(t *testing.T) {
	for _, x := range append(walked(), scattered()...) {
		if x.year == lastYear {
			continue
		}
		end, e := End(x.year)
		next, f := Start(x.year + 1)
		if next != end+1 || e != api.OK || f != api.OK {
			t.Fatalf("End(%d) = %d, %d, but the year after begins with %d, %d", x.year, end, e, next, f)
		}
	}
}

// P4.5: 400 years have 97 leap years and 146097 days, and a year that is 400 later is as long.
func TestCycles(t *testing.T) {
	for _, x := range append(walked(), scattered()...) {
		if x.year > lastYear-400 {
			continue
		}
		leaps, e := Leaps(x.year, x.year+399)
		start, f := Start(x.year)
		later, g := Start(x.year + 400)
		days, h := Len(x.year)
		laterDays, i := Len(x.year + 400)
		if e+f+g+h+i != 0 || leaps != 97 || later-start != 146097 || laterDays != days {
			t.Fatalf("%d: %d leap years; begins with %d, %d; has %d, %d days; errors %d %d %d %d %d", x.year, leaps, start, later, days, laterDays, e, f, g, h, i)
		}
	}
}
