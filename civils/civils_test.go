package civils

import (
	"math"
	"math/big"
	"math/rand"
	"slices"
	"testing"

	"circa/api"
)

const (
	most, least = math.MaxInt64, math.MinInt64
	lastYear    = 10_000_000_000_000_000
	lastStart   = 3_652_425_000_000_000_000 // of the years -lastYear and lastYear, without the sign
	lastDay     = lastStart + 365           // lastYear is a leap year
	reach       = 405                       // how many years a walk goes
	cycleYears  = 400
	cycleDays   = 146097
)

// known is a civil day that a walk has found.
type known struct {
	api.Civil
	day     int64
	weekday int
	ordinal int
}

// civil returns a civil day.
func civil(y int64, m, d int) api.Civil {
	return api.Civil{Year: y, Month: m, Day: d}
}

// lengthsByDefinition returns how many days the months of a year have.
func lengthsByDefinition(y int64) []int {
	lengths := []int{31, 28, 31, 30, 31, 30, 31, 31, 30, 31, 30, 31}
	if y%4 == 0 && (y%100 != 0 || y%400 == 0) {
		lengths[1] = 29
	}
	return lengths
}

// forward walks day by day from the first day of a year on, whose day and weekday are known, over some years.
func forward(y, day int64, weekday, overYears int) []known {
	var list []known
	for range overYears {
		ordinal := 1
		for i, days := range lengthsByDefinition(y) {
			for d := 1; d <= days; d++ {
				list = append(list, known{civil(y, i+1, d), day, weekday, ordinal})
				day, weekday, ordinal = day+1, (weekday+1)%7, ordinal+1
			}
		}
		y++
	}
	return list
}

// backward walks day by day back from the first day of a year, which is not in the list, whose day and weekday are known, over some years.
func backward(y, day int64, weekday, overYears int) []known {
	var list []known
	for range overYears {
		y--
		lengths := lengthsByDefinition(y)
		ordinal := 0
		for _, days := range lengths {
			ordinal += days
		}
		for i := 11; i >= 0; i-- {
			for d := lengths[i]; d >= 1; d-- {
				day, weekday = day-1, (weekday+6)%7
				list = append(list, known{civil(y, i+1, d), day, weekday, ordinal})
				ordinal--
			}
		}
	}
	return list
}

// walked returns, in order, the days about the year 0, and those at both ends of the calendar. 400 years have 20871 weeks, so that both ends begin as the year 0 does, with a Saturday.
func walked() [][]known {
	ahead, behind := backward(0, 0, 5, reach), backward(lastYear, lastStart, 5, 10)
	slices.Reverse(ahead)
	slices.Reverse(behind)
	return [][]known{
		append(ahead, forward(0, 0, 5, reach)...),
		forward(-lastYear, -lastStart, 5, 10),
		append(behind, forward(lastYear, lastStart, 5, 1)...),
	}
}

// scattered returns days of years of all sizes: each is as far from a day of a walk as many times 400 years are long.
func scattered() []known {
	random := rand.New(rand.NewSource(6))
	var list []known
	near := forward(0, 0, 5, cycleYears)
	for cycles := int64(1); cycles < lastYear/cycleYears-10; cycles = cycles*3 + random.Int63n(3) {
		for range 50 {
			on, back := near[random.Intn(len(near))], near[random.Intn(len(near))]
			on.Year, on.day = on.Year+cycleYears*cycles, on.day+cycleDays*cycles
			back.Year, back.day = back.Year-cycleYears*cycles, back.day-cycleDays*cycles
			list = append(list, on, back)
		}
	}
	return list
}

// all returns every day that a walk has found, and the scattered ones.
func all() []known {
	return append(slices.Concat(walked()...), scattered()...)
}

// fault is a civil day that is none, and why.
type fault struct {
	api.Civil
	err api.Errno
}

// faults returns years, months and days that are none: one, two and three of them at once.
func faults() []fault {
	badYears := []int64{lastYear + 1, -lastYear - 1, lastYear + 400, 10 * lastYear, most, least}
	badMonths := []int{0, 13, -1, -12, 21, 1 << 32, 1<<32 + 1, math.MaxInt, math.MinInt}
	badDays := []int{0, 32, -1, -31, 99, 1 << 32, 1<<32 + 1, math.MaxInt, math.MinInt}
	goodDays := []int{1, 28, 31}
	var list []fault
	for _, d := range append(badDays, goodDays...) {
		for _, y := range badYears {
			for _, m := range append([]int{1, 2, 12}, badMonths...) {
				list = append(list, fault{civil(y, m, d), api.ErrYear})
			}
		}
		for _, y := range []int64{0, -1, 2000, lastYear, -lastYear} {
			for _, m := range badMonths {
				list = append(list, fault{civil(y, m, d), api.ErrMonth})
			}
		}
	}
	for _, d := range badDays {
		for _, y := range []int64{0, -1, 2000, lastYear, -lastYear} {
			for m := 1; m <= 12; m++ {
				list = append(list, fault{civil(y, m, d), api.ErrDay})
			}
		}
	}
	return append(list, behindMonths()...)
}

// behindMonths returns the days one behind the last one of a month.
func behindMonths() []fault {
	var list []fault
	for _, y := range []int64{0, 1, -1, -4, 4, 100, -100, 400, 1900, 2000, 2001, 2004, lastYear, lastYear - 1, -lastYear, -lastYear + 1} {
		for i, days := range lengthsByDefinition(y) {
			list = append(list, fault{civil(y, i+1, days+1), api.ErrDay})
		}
	}
	return list
}

// P6.1: the civil days are those of the months of the calendar, as long as these are.
func TestCheck(t *testing.T) {
	for _, x := range []struct {
		c   api.Civil
		err api.Errno
	}{
		{civil(0, 1, 1), api.OK},
		{civil(2000, 2, 29), api.OK},
		{civil(1900, 2, 29), api.ErrDay},
		{civil(1900, 2, 28), api.OK},
		{civil(2000, 2, 30), api.ErrDay},
		{civil(2001, 2, 29), api.ErrDay},
		{civil(-4, 2, 29), api.OK},
		{civil(-1, 2, 29), api.ErrDay},
		{civil(2001, 4, 31), api.ErrDay},
		{civil(2001, 12, 31), api.OK},
		{civil(2001, 12, 32), api.ErrDay},
		{civil(2001, 1, 0), api.ErrDay},
		{civil(1, 13, 1), api.ErrMonth},
		{civil(0, 0, 0), api.ErrMonth},
		{civil(lastYear, 12, 31), api.OK},
		{civil(-lastYear, 1, 1), api.OK},
		{civil(lastYear+1, 1, 1), api.ErrYear},
		{civil(-lastYear-1, 12, 31), api.ErrYear},
		{civil(lastYear+1, 13, 32), api.ErrYear},
	} {
		if err := Check(x.c); err != x.err {
			t.Errorf("Check(%v) = %d; want %d", x.c, err, x.err)
		}
	}
	for _, x := range all() {
		if err := Check(x.Civil); err != api.OK {
			t.Fatalf("Check(%v) = %d", x.Civil, err)
		}
	}
}

// P6.1, P6.2, P6.4, P6.6: what is no civil day has the error of Check, and everything else is zero.
func TestErrorsOfCivilDays(t *testing.T) {
	for _, x := range faults() {
		if err := Check(x.Civil); err != x.err {
			t.Errorf("Check(%v) = %d; want %d", x.Civil, err, x.err)
		}
		if day, err := Day(x.Civil); day != 0 || err != x.err {
			t.Errorf("Day(%v) = %d, %d; want %d", x.Civil, day, err, x.err)
		}
		if n, err := Ordinal(x.Civil); n != 0 || err != x.err {
			t.Errorf("Ordinal(%v) = %d, %d; want %d", x.Civil, n, err, x.err)
		}
		if s, err := Text(x.Civil); s != "" || err != x.err {
			t.Errorf("Text(%v) = %q, %d; want %d", x.Civil, s, err, x.err)
		}
	}
}

// P6.2: days and civil days, among them the first and the last one of a month, of a year and of the calendar, and days below 0.
func TestDayOf(t *testing.T) {
	for _, x := range []struct {
		c   api.Civil
		day int64
	}{
		{civil(0, 1, 1), 0},
		{civil(0, 1, 31), 30},
		{civil(0, 2, 1), 31},
		{civil(0, 2, 29), 59},
		{civil(0, 3, 1), 60},
		{civil(0, 12, 31), 365},
		{civil(1, 1, 1), 366},
		{civil(1, 2, 28), 424},
		{civil(1, 3, 1), 425},
		{civil(-1, 12, 31), -1},
		{civil(-1, 1, 1), -365},
		{civil(-2, 12, 31), -366},
		{civil(-4, 2, 29), -1402},
		{civil(1970, 1, 1), 719528},
		{civil(1999, 12, 31), 730484},
		{civil(2000, 2, 29), 730544},
		{civil(2026, 11, 16), 740301},
		{civil(12345, 6, 7), 4509076},
		{civil(lastYear, 1, 1), lastStart},
		{civil(lastYear, 12, 31), lastDay},
		{civil(-lastYear, 1, 1), -lastStart},
		{civil(-lastYear, 12, 31), -lastStart + 365},
	} {
		if day, err := Day(x.c); day != x.day || err != api.OK {
			t.Errorf("Day(%v) = %d, %d; want %d", x.c, day, err, x.day)
		}
		if c, err := Of(x.day); c != x.c || err != api.OK {
			t.Errorf("Of(%d) = %v, %d; want %v", x.day, c, err, x.c)
		}
	}
	for _, x := range all() {
		if day, err := Day(x.Civil); day != x.day || err != api.OK {
			t.Fatalf("Day(%v) = %d, %d; want %d", x.Civil, day, err, x.day)
		}
		if c, err := Of(x.day); c != x.Civil || err != api.OK {
			t.Fatalf("Of(%d) = %v, %d; want %v", x.day, c, err, x.Civil)
		}
	}
}

// P6.2: days beyond the calendar are ErrYear.
func TestOfNoDay(t *testing.T) {
	for _, day := range []int64{lastDay + 1, lastDay + 366, -lastStart - 1, -lastStart - 366, 2 * lastStart, -2 * lastStart, most, most - 1, least, least + 1} {
		if c, err := Of(day); c != civil(0, 0, 0) || err != api.ErrYear {
			t.Errorf("Of(%d) = %v, %d; want ErrYear", day, c, err)
		}
	}
}

// P6.3: weekdays, of days of the calendar and of all others.
func TestWeekday(t *testing.T) {
	for _, x := range []struct {
		day  int64
		want int
	}{
		{0, 5}, {1, 6}, {2, 0}, {3, 1}, {6, 4}, {7, 5},
		{-1, 4}, {-2, 3}, {-5, 0}, {-6, 6}, {-7, 5}, {-8, 4},
		{719528, 3}, {730544, 1}, {740301, 0},
		{lastStart, 5}, {-lastStart, 5},
	} {
		if got := Weekday(x.day); got != x.want {
			t.Errorf("Weekday(%d) = %d; want %d", x.day, got, x.want)
		}
	}
	for _, x := range all() {
		if got := Weekday(x.day); got != x.weekday {
			t.Fatalf("Weekday(%d) = %d; want %d", x.day, got, x.weekday)
		}
	}
	for offset := range int64(100) {
		for _, day := range []int64{least + offset, most - offset, lastDay + offset, -lastStart - offset} {
			want := new(big.Int).Add(big.NewInt(day), big.NewInt(5))
			want.Mod(want, big.NewInt(7))
			if got := Weekday(day); int64(got) != want.Int64() {
				t.Errorf("Weekday(%d) = %d; want %d", day, got, want)
			}
		}
	}
}

// P6.4: ordinals, in leap years and in others.
func TestOrdinal(t *testing.T) {
	for _, x := range []struct {
		c api.Civil
		n int
	}{
		{civil(2000, 1, 1), 1},
		{civil(2000, 2, 29), 60},
		{civil(2000, 3, 1), 61},
		{civil(2000, 12, 31), 366},
		{civil(1900, 2, 28), 59},
		{civil(1900, 3, 1), 60},
		{civil(1900, 12, 31), 365},
		{civil(0, 12, 31), 366},
		{civil(-1, 12, 31), 365},
		{civil(-4, 12, 31), 366},
		{civil(lastYear, 12, 31), 366},
		{civil(lastYear-1, 12, 31), 365},
		{civil(-lastYear, 1, 1), 1},
		{civil(-lastYear, 12, 31), 366},
	} {
		if n, err := Ordinal(x.c); n != x.n || err != api.OK {
			t.Errorf("Ordinal(%v) = %d, %d; want %d", x.c, n, err, x.n)
		}
		if c, err := FromOrdinal(x.c.Year, x.n); c != x.c || err != api.OK {
			t.Errorf("FromOrdinal(%d, %d) = %v, %d; want %v", x.c.Year, x.n, c, err, x.c)
		}
	}
	for _, x := range all() {
		if n, err := Ordinal(x.Civil); n != x.ordinal || err != api.OK {
			t.Fatalf("Ordinal(%v) = %d, %d; want %d", x.Civil, n, err, x.ordinal)
		}
		if c, err := FromOrdinal(x.Year, x.ordinal); c != x.Civil || err != api.OK {
			t.Fatalf("FromOrdinal(%d, %d) = %v, %d; want %v", x.Year, x.ordinal, c, err, x.Civil)
		}
	}
}

// P6.4: years that are none, ordinals that a year does not have, and both at once.
func TestFromOrdinalErrors(t *testing.T) {
	bad := []int{0, -1, 367, -366, 1 << 32, 1<<32 + 1, math.MaxInt, math.MinInt}
	for _, y := range []int64{lastYear + 1, -lastYear - 1, most, least} {
		for _, n := range append([]int{1, 365, 366}, bad...) {
			if c, err := FromOrdinal(y, n); c != civil(0, 0, 0) || err != api.ErrYear {
				t.Errorf("FromOrdinal(%d, %d) = %v, %d; want ErrYear", y, n, c, err)
			}
		}
	}
	for _, y := range []int64{0, 1, -1, -4, 1900, 2000, lastYear, -lastYear, lastYear - 1, 1 - lastYear} {
		ordinals := bad
		if len(forward(y, 0, 0, 1)) == 365 {
			ordinals = append([]int{366}, bad...)
		}
		for _, n := range ordinals {
			if c, err := FromOrdinal(y, n); c != civil(0, 0, 0) || err != api.ErrRange {
				t.Errorf("FromOrdinal(%d, %d) = %v, %d; want ErrRange", y, n, c, err)
			}
		}
	}
}

// P6.5: the years count first, then the months, then the days, even of what is no civil day.
func TestCompare(t *testing.T) {
	years := []int64{least, -lastYear - 1, -2, -1, 0, 1, 2, lastYear + 1, most}
	parts := []int{math.MinInt, -1, 0, 1, 2, 12, 13, 31, 32, math.MaxInt}
	var ascending []api.Civil
	for _, y := range years {
		for _, m := range parts {
			for _, d := range parts {
				ascending = append(ascending, civil(y, m, d))
			}
		}
	}
	for i, a := range ascending {
		for j, b := range ascending {
			want := 0
			if i < j {
				want = -1
			} else if i > j {
				want = 1
			}
			if got := Compare(a, b); got != want {
				t.Fatalf("Compare(%v, %v) = %d; want %d", a, b, got, want)
			}
		}
	}
}

// P6.7: days are in the order of their civil days: each comes ahead of the next one.
func TestDaysAscend(t *testing.T) {
	for _, list := range walked() {
		for i, x := range list[1:] {
			before := list[i]
			if Compare(before.Civil, x.Civil) != -1 || Compare(x.Civil, before.Civil) != 1 || Compare(x.Civil, x.Civil) != 0 {
				t.Fatalf("Compare(%v, %v) = %d", before.Civil, x.Civil, Compare(before.Civil, x.Civil))
			}
			a, e := Day(before.Civil)
			b, f := Day(x.Civil)
			if b != a+1 || e != api.OK || f != api.OK {
				t.Fatalf("Day(%v) = %d, %d, but Day(%v) = %d, %d", before.Civil, a, e, x.Civil, b, f)
			}
		}
	}
	tryOrder(t, scattered())
}

// tryOrder sorts civil days by Compare, and expects their days to ascend.
func tryOrder(t *testing.T, list []known) {
	t.Helper()
	slices.SortFunc(list, func(a, b known) int { return Compare(a.Civil, b.Civil) })
	last := int64(least)
	for _, x := range list {
		day, err := Day(x.Civil)
		if day < last || err != api.OK {
			t.Fatalf("Day(%v) = %d, %d, but one ahead of it is %d", x.Civil, day, err, last)
		}
		last = day
	}
}

// P6.7: Day and Of invert each other, and so do Text and Parse, and Ordinal and FromOrdinal within a year.
func TestInverses(t *testing.T) {
	random := rand.New(rand.NewSource(67))
	for range 100_000 {
		day := random.Int63n(lastDay) >> random.Intn(62)
		if random.Intn(2) == 0 {
			day = -day
		}
		c, e := Of(day)
		back, f := Day(c)
		if back != day || e != api.OK || f != api.OK {
			t.Fatalf("Of(%d) = %v, %d, but Day says %d, %d", day, c, e, back, f)
		}
		s, e := Text(c)
		read, f := Parse(s)
		if read != c || e != api.OK || f != api.OK {
			t.Fatalf("Text(%v) = %q, %d, but Parse says %v, %d", c, s, e, read, f)
		}
		n, e := Ordinal(c)
		same, f := FromOrdinal(c.Year, n)
		if same != c || e != api.OK || f != api.OK {
			t.Fatalf("Ordinal(%v) = %d, %d, but FromOrdinal says %v, %d", c, n, e, same, f)
		}
	}
}

// P6.7: the weekday is the same seven days on, and 146097 days on, which are 400 years.
func TestWeekdaysRepeat(t *testing.T) {
	days := []int64{0, -1, 719528, least, least + 1, most - cycleDays, most - cycleDays - 1}
	for _, x := range scattered() {
		days = append(days, x.day)
	}
	for _, day := range days {
		want := Weekday(day)
		for _, on := range []int64{7, cycleDays} {
			if got := Weekday(day + on); got != want {
				t.Fatalf("Weekday(%d) = %d, but Weekday(%d) = %d", day, want, day+on, got)
			}
		}
		for on := int64(1); on < 7; on++ {
			if got := Weekday(day + on); int64(got) != (int64(want)+on)%7 {
				t.Fatalf("Weekday(%d) = %d, but Weekday(%d) = %d", day, want, day+on, got)
			}
		}
	}
	for _, x := range scattered() {
		later := civil(x.Year+cycleYears, x.Month, x.Civil.Day)
		if day, err := Day(later); day != x.day+cycleDays || err != api.OK {
			t.Fatalf("Day(%v) = %d, %d; want %d", later, day, err, x.day+cycleDays)
		}
	}
}
