package ends

import (
	"math"
	"math/rand"
	"slices"
	"testing"

	"circa/api"
)

const most, least = math.MaxInt64, math.MinInt64

var low, high = api.End{Inf: -1}, api.End{Inf: 1}

// edgeDays are days where something may go wrong, ascending.
var edgeDays = []int64{least, least + 1, least + 2, -1 << 53, -1<<32 - 1, -1 << 32, -1 << 31, -401, -3, -2, -1, 0, 1, 2, 3, 401, 1 << 31, 1 << 32, 1<<32 + 1, 1 << 53, most - 2, most - 1, most}

// wrong are ends that are not right: with another Inf, or infinities with a day.
var wrong = []api.End{
	{Inf: 2}, {Inf: -2}, {Inf: 3}, {Inf: -3}, {Inf: math.MaxInt8}, {Inf: math.MinInt8},
	{Inf: 2, Day: 5}, {Inf: -2, Day: -5}, {Inf: 2, Day: most}, {Inf: -2, Day: least}, {Inf: math.MaxInt8, Day: most}, {Inf: math.MinInt8, Day: least},
	{Inf: 1, Day: 5}, {Inf: 1, Day: 1}, {Inf: 1, Day: -1}, {Inf: 1, Day: most}, {Inf: 1, Day: least},
	{Inf: -1, Day: 7}, {Inf: -1, Day: 1}, {Inf: -1, Day: -1}, {Inf: -1, Day: most}, {Inf: -1, Day: least},
}

// inOrder returns right ends, ascending.
func inOrder() []api.End {
	list := []api.End{low}
	for _, day := range edgeDays {
		list = append(list, api.End{Day: day})
	}
	return append(list, high)
}

// anyEnds returns right and wrong ends, among them many that have a field in common.
func anyEnds() []api.End {
	list := slices.Concat(inOrder(), wrong)
	random := rand.New(rand.NewSource(8))
	for range 60 {
		list = append(list, api.End{Inf: int8(random.Intn(7) - 3), Day: int64(random.Intn(3) - 1)})
		list = append(list, api.End{Inf: int8(random.Intn(256) - 128), Day: int64(random.Uint64())})
	}
	return list
}

// isLess tells by the definition whether an end is less than another one: first Inf, then Day, as numbers.
func isLess(a, b api.End) bool {
	return a.Inf < b.Inf || a.Inf == b.Inf && a.Day < b.Day
}

// P8.1: right ends are days, and infinities without a Day.
func TestCheck(t *testing.T) {
	for _, x := range inOrder() {
		if err := Check(x); err != api.OK {
			t.Errorf("Check(%v) = %d", x, err)
		}
	}
	for _, x := range wrong {
		if err := Check(x); err != api.ErrForm {
			t.Errorf("Check(%v) = %d; want ErrForm", x, err)
		}
	}
}

// P8.1: Check of an end with any Inf, with a Day and without one.
func TestCheckOfAllInf(t *testing.T) {
	for inf := math.MinInt8; inf <= math.MaxInt8; inf++ {
		for _, day := range edgeDays {
			want := api.ErrForm
			if inf == 0 || day == 0 && (inf == -1 || inf == 1) {
				want = api.OK
			}
			x := api.End{Inf: int8(inf), Day: day}
			if got := Check(x); got != want {
				t.Fatalf("Check(%v) = %d; want %d", x, got, want)
			}
		}
	}
}

// P8.1: Of returns the end that is a day.
func TestOf(t *testing.T) {
	for _, day := range edgeDays {
		if got := Of(day); got.Inf != 0 || got.Day != day || Check(got) != api.OK {
			t.Errorf("Of(%d) = %v", day, got)
		}
	}
}

// P8.2: the order is -infinity, the days ascending, infinity.
func TestOrder(t *testing.T) {
	list := inOrder()
	for i, a := range list {
		for j, b := range list {
			want := 0
			if i < j {
				want = -1
			} else if i > j {
				want = 1
			}
			if got := Compare(a, b); got != want {
				t.Errorf("Compare(%v, %v) = %d; want %d", a, b, got, want)
			}
			if got := Min(a, b); got != list[min(i, j)] {
				t.Errorf("Min(%v, %v) = %v", a, b, got)
			}
			if got := Max(a, b); got != list[max(i, j)] {
				t.Errorf("Max(%v, %v) = %v", a, b, got)
			}
		}
	}
}

// P8.2: Compare, Min and Max accept ends that are not right, and look at Inf first.
func TestOrderOfAll(t *testing.T) {
	for _, a := range anyEnds() {
		for _, b := range anyEnds() {
			sign, lesser, greater := 0, a, a
			if isLess(a, b) {
				sign, greater = -1, b
			} else if isLess(b, a) {
				sign, lesser = 1, b
			}
			if got := Compare(a, b); got != sign {
				t.Fatalf("Compare(%v, %v) = %d; want %d", a, b, got, sign)
			}
			if got := Min(a, b); got != lesser {
				t.Fatalf("Min(%v, %v) = %v; want %v", a, b, got, lesser)
			}
			if got := Max(a, b); got != greater {
				t.Fatalf("Max(%v, %v) = %v; want %v", a, b, got, greater)
			}
		}
	}
}

// P8.2: the examples of the chapter, and ends whose Inf and Day point in opposite directions.
func TestCompareExamples(t *testing.T) {
	for _, x := range []struct {
		a, b api.End
		want int
	}{
		{low, api.End{Day: least}, -1},
		{high, api.End{Day: most}, 1},
		{api.End{Day: 3}, api.End{Day: 3}, 0},
		{low, low, 0},
		{high, high, 0},
		{low, high, -1},
		{api.End{Day: least}, api.End{Day: most}, -1},
		{api.End{Inf: 2, Day: least}, api.End{Inf: 1, Day: most}, 1},
		{api.End{Inf: -2, Day: most}, api.End{Inf: -1, Day: least}, -1},
		{api.End{Inf: math.MinInt8}, api.End{Inf: math.MaxInt8}, -1},
		{api.End{Inf: 1, Day: 5}, high, 1},
		{api.End{Inf: -1, Day: -5}, low, -1},
		{api.End{Inf: 9, Day: 5}, api.End{Inf: 9, Day: 5}, 0},
	} {
		if got := Compare(x.a, x.b); got != x.want {
			t.Errorf("Compare(%v, %v) = %d; want %d", x.a, x.b, got, x.want)
		}
	}
	if got := Min(low, Of(3)); got != low {
		t.Errorf("Min(-inf, 3) = %v", got)
	}
	if got := Max(Of(4), high); got != high {
		t.Errorf("Max(4, inf) = %v", got)
	}
}

// P8.3: the day beside a day, an infinity itself, and errors.
func TestNextPrev(t *testing.T) {
	for _, x := range []struct {
		name string
		move func(api.End) (api.End, api.Errno)
		from api.End
		want api.End
		err  api.Errno
	}{
		{"Next", Next, Of(5), Of(6), api.OK},
		{"Next", Next, Of(-1), Of(0), api.OK},
		{"Next", Next, Of(0), Of(1), api.OK},
		{"Next", Next, Of(most - 1), Of(most), api.OK},
		{"Next", Next, Of(most), api.End{}, api.ErrOverflow},
		{"Next", Next, Of(least), Of(least + 1), api.OK},
		{"Next", Next, low, low, api.OK},
		{"Next", Next, high, high, api.OK},
		{"Prev", Prev, Of(5), Of(4), api.OK},
		{"Prev", Prev, Of(1), Of(0), api.OK},
		{"Prev", Prev, Of(0), Of(-1), api.OK},
		{"Prev", Prev, Of(least + 1), Of(least), api.OK},
		{"Prev", Prev, Of(least), api.End{}, api.ErrOverflow},
		{"Prev", Prev, Of(most), Of(most - 1), api.OK},
		{"Prev", Prev, low, low, api.OK},
		{"Prev", Prev, high, high, api.OK},
	} {
		if got, err := x.move(x.from); got != x.want || err != x.err {
			t.Errorf("%s(%v) = %v, %d; want %v, %d", x.name, x.from, got, err, x.want, x.err)
		}
	}
}

// P8.3: an end that is not right has no end beside it, also where the day overflows.
func TestNextPrevOfWrongEnds(t *testing.T) {
	for _, x := range wrong {
		if got, err := Next(x); got != (api.End{}) || err != api.ErrForm {
			t.Errorf("Next(%v) = %v, %d; want ErrForm", x, got, err)
		}
		if got, err := Prev(x); got != (api.End{}) || err != api.ErrForm {
			t.Errorf("Prev(%v) = %v, %d; want ErrForm", x, got, err)
		}
	}
}

// P8.5: Compare is a total order of all ends, and 0 for equal ones alone.
func TestCompareIsTotalOrder(t *testing.T) {
	list := anyEnds()
	for _, a := range list {
		for _, b := range list {
			sign := Compare(a, b)
			if sign != -Compare(b, a) || (sign == 0) != (a == b) {
				t.Fatalf("Compare(%v, %v) = %d, Compare(%v, %v) = %d", a, b, sign, b, a, Compare(b, a))
			}
			if sign > 0 {
				continue
			}
			for _, c := range list {
				if Compare(b, c) <= 0 && Compare(a, c) > 0 {
					t.Fatalf("Compare: %v, %v and %v ascend, but not the first and the last one", a, b, c)
				}
			}
		}
	}
}

// P8.5: Prev inverts Next, and Next inverts Prev.
func TestPrevInvertsNext(t *testing.T) {
	for _, x := range inOrder() {
		if next, err := Next(x); err == api.OK {
			if got, err := Prev(next); got != x || err != api.OK {
				t.Errorf("Prev(Next(%v)) = %v, %d", x, got, err)
			}
		}
		if prev, err := Prev(x); err == api.OK {
			if got, err := Next(prev); got != x || err != api.OK {
				t.Errorf("Next(Prev(%v)) = %v, %d", x, got, err)
			}
		}
	}
}

// P8.5: nothing lies between a day and its Next: no end is greater than the one and less than the other.
func TestNothingBetween(t *testing.T) {
	for _, x := range inOrder() {
		next, err := Next(x)
		if x.Inf != 0 || err != api.OK {
			continue
		}
		if Compare(x, next) != -1 {
			t.Errorf("Next(%v) = %v is not greater", x, next)
		}
		for _, y := range inOrder() {
			if Compare(x, y) < 0 && Compare(y, next) < 0 {
				t.Errorf("%v lies between %v and its Next, %v", y, x, next)
			}
		}
	}
}
