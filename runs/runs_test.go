package runs

import (
	"math"
	"math/big"
	"math/rand"
	"slices"
	"testing"

	"circa/api"
)

const most, least = math.MaxInt64, math.MinInt64

var low, high = api.End{Inf: -1}, api.End{Inf: 1}

// edgeDays are days where something may go wrong, ascending.
var edgeDays = []int64{least, least + 1, least + 2, -1 << 62, -1<<32 - 1, -1 << 31, -8, -2, -1, 0, 1, 2, 9, 1 << 31, 1<<32 + 1, 1 << 62, most - 2, most - 1, most}

// wrongEnds are ends that are not right: with another Inf, or infinities with a day.
var wrongEnds = []api.End{
	{Inf: 2}, {Inf: -2}, {Inf: math.MaxInt8}, {Inf: math.MinInt8}, {Inf: 2, Day: 5}, {Inf: -2, Day: most}, {Inf: math.MinInt8, Day: least},
	{Inf: 1, Day: 5}, {Inf: 1, Day: -1}, {Inf: 1, Day: most}, {Inf: 1, Day: least},
	{Inf: -1, Day: 5}, {Inf: -1, Day: 1}, {Inf: -1, Day: most}, {Inf: -1, Day: least},
}

func day(n int64) api.End { return api.End{Day: n} }

func days(lo, hi int64) api.Run { return api.Run{Lo: day(lo), Hi: day(hi)} }

// edgeEnds returns right ends, ascending.
func edgeEnds() []api.End {
	list := []api.End{low}
	for _, n := range edgeDays {
		list = append(list, day(n))
	}
	return append(list, high)
}

// edgeRuns returns all right runs between edge ends.
func edgeRuns() []api.Run {
	var list []api.Run
	all := edgeEnds()
	for i, lo := range all {
		for _, hi := range all[i:] {
			if lo != high && hi != low {
				list = append(list, api.Run{Lo: lo, Hi: hi})
			}
		}
	}
	return list
}

// wrongRun is a run that is not right, and its error.
type wrongRun struct {
	run api.Run
	err api.Errno
}

// wrongRuns returns runs that are not right: for one reason, and for several ones at once.
func wrongRuns() []wrongRun {
	list := []wrongRun{
		{api.Run{Lo: high, Hi: high}, api.ErrRange},
		{api.Run{Lo: low, Hi: low}, api.ErrRange},
		{api.Run{Lo: high, Hi: low}, api.ErrRange},
		{api.Run{Lo: high, Hi: day(0)}, api.ErrRange}, // and Lo is behind Hi
		{api.Run{Lo: high, Hi: day(most)}, api.ErrRange},
		{api.Run{Lo: day(0), Hi: low}, api.ErrRange},
		{api.Run{Lo: day(least), Hi: low}, api.ErrRange},
		{days(1, 0), api.ErrOrder},
		{days(0, -1), api.ErrOrder},
		{days(5, 3), api.ErrOrder},
		{days(most, most-1), api.ErrOrder},
		{days(least+1, least), api.ErrOrder},
		{days(most, least), api.ErrOrder},
	}
	for _, x := range wrongEnds {
		for _, other := range append(edgeEnds(), wrongEnds...) {
			list = append(list, wrongRun{api.Run{Lo: x, Hi: other}, api.ErrForm}, wrongRun{api.Run{Lo: other, Hi: x}, api.ErrForm})
		}
	}
	return list
}

// onLine tells where an end lies among numbers of any size: infinities lie where no sum of two days is.
func onLine(x api.End) *big.Int {
	far := new(big.Int).Lsh(big.NewInt(1), 80)
	switch {
	case x.Inf < 0:
		return far.Neg(far)
	case x.Inf > 0:
		return far
	}
	return big.NewInt(x.Day)
}

// isAhead reports whether a right end is not behind another one.
func isAhead(a, b api.End) bool { return onLine(a).Cmp(onLine(b)) <= 0 }

// P9.1: runs that are right, and the errors of others; the form goes ahead of the range, and that of the order.
func TestCheck(t *testing.T) {
	for _, r := range edgeRuns() {
		if err := Check(r); err != api.OK {
			t.Errorf("Check(%v) = %d", r, err)
		}
	}
	for _, x := range wrongRuns() {
		if err := Check(x.run); err != x.err {
			t.Errorf("Check(%v) = %d; want %d", x.run, err, x.err)
		}
	}
}

// errorOf finds the error of a run by the definition.
func errorOf(r api.Run) api.Errno {
	isWrong := func(x api.End) bool {
		return x.Inf < -1 || x.Inf > 1 || x.Inf != 0 && x.Day != 0
	}
	switch {
	case isWrong(r.Lo) || isWrong(r.Hi):
		return api.ErrForm
	case r.Lo == high || r.Hi == low:
		return api.ErrRange
	case r.Lo.Inf == 0 && r.Hi.Inf == 0 && r.Lo.Day > r.Hi.Day:
		return api.ErrOrder
	}
	return api.OK
}

// P9.1: Check of all pairs of some ends, right and wrong ones.
func TestCheckOfAllEnds(t *testing.T) {
	var list []api.End
	for _, inf := range []int8{math.MinInt8, -3, -2, -1, 0, 1, 2, 3, math.MaxInt8} {
		for _, n := range []int64{least, -1, 0, 1, 5, most} {
			list = append(list, api.End{Inf: inf, Day: n})
		}
	}
	for _, lo := range list {
		for _, hi := range list {
			r := api.Run{Lo: lo, Hi: hi}
			if got, want := Check(r), errorOf(r); got != want {
				t.Fatalf("Check(%v) = %d; want %d", r, got, want)
			}
		}
	}
}

// P9.1: Of returns the run from a day to another one, or ErrOrder.
func TestOf(t *testing.T) {
	for _, lo := range edgeDays {
		for _, hi := range edgeDays {
			want, wantErr := days(lo, hi), api.OK
			if lo > hi {
				want, wantErr = api.Run{}, api.ErrOrder
			}
			if got, err := Of(lo, hi); got != want || err != wantErr {
				t.Errorf("Of(%d, %d) = %v, %d; want %v, %d", lo, hi, got, err, want, wantErr)
			}
		}
	}
}

// P9.2: the days of a run are those from Lo to Hi.
func TestHas(t *testing.T) {
	for _, r := range edgeRuns() {
		for _, n := range edgeDays {
			want := isAhead(r.Lo, day(n)) && isAhead(day(n), r.Hi)
			if got := Has(r, n); got != want {
				t.Errorf("Has(%v, %d) = %t", r, n, got)
			}
		}
	}
}

// P9.2: a right run is within another one that begins not behind it and ends not ahead of it.
func TestWithin(t *testing.T) {
	list := edgeRuns()
	for _, a := range list {
		for _, b := range list {
			want := isAhead(b.Lo, a.Lo) && isAhead(a.Hi, b.Hi)
			if got := Within(a, b); got != want {
				t.Fatalf("Within(%v, %v) = %t", a, b, got)
			}
		}
	}
}

// P9.2: an infinite end is beyond the last day.
func TestWithinAtInfinity(t *testing.T) {
	for _, x := range []struct{ greater, lesser api.Run }{
		{api.Run{Lo: day(0), Hi: high}, days(0, most)},
		{api.Run{Lo: low, Hi: day(0)}, days(least, 0)},
		{api.Run{Lo: low, Hi: high}, days(least, most)},
		{api.Run{Lo: low, Hi: high}, api.Run{Lo: day(least), Hi: high}},
		{api.Run{Lo: low, Hi: high}, api.Run{Lo: low, Hi: day(most)}},
		{api.Run{Lo: day(most), Hi: high}, days(most, most)},
		{api.Run{Lo: low, Hi: day(least)}, days(least, least)},
	} {
		if !Within(x.lesser, x.greater) || Within(x.greater, x.lesser) {
			t.Errorf("Within of %v and %v = %t, %t", x.lesser, x.greater, Within(x.lesser, x.greater), Within(x.greater, x.lesser))
		}
	}
}

// lines returns ends of which the days come one behind another: the first and the last days, and some about 0.
func lines() [][]api.End {
	var list [][]api.End
	for _, first := range []int64{least, -3, most - 6} {
		line := []api.End{low}
		for n := range int64(7) {
			line = append(line, day(first+n))
		}
		list = append(list, append(line, high))
	}
	return list
}

// places are those of the ends of a line that a run has.
type places []bool

// placed is a right run with its places on a line.
type placed struct {
	run api.Run
	has places
}

// allPlaced returns all right runs between ends of a line.
func allPlaced(line []api.End) []placed {
	var list []placed
	last := len(line) - 1
	for i := range last {
		for j := max(i, 1); j <= last; j++ {
			has := make(places, len(line))
			for k := i; k <= j; k++ {
				has[k] = true
			}
			list = append(list, placed{api.Run{Lo: line[i], Hi: line[j]}, has})
		}
	}
	return list
}

// runOn returns the run that has just some places of a line that follow each other; the zero run if there are none.
func (p places) runOn(line []api.End) (api.Run, bool) {
	i := slices.Index(p, true)
	if i < 0 {
		return api.Run{}, false
	}
	j := i
	for j+1 < len(p) && p[j+1] {
		j++
	}
	return api.Run{Lo: line[i], Hi: line[j]}, true
}

// put returns the places for which one or both runs are asked.
func put(a, b places, ask func(inA, inB bool) bool) places {
	result := make(places, len(a))
	for k := range a {
		result[k] = ask(a[k], b[k])
	}
	return result
}

// touches reports whether two runs have a place in common, or places of both are beside each other.
func touches(a, b places) bool {
	for k := range a {
		beside := k+1 < len(a) && (a[k] && b[k+1] || b[k] && a[k+1])
		if a[k] && b[k] || beside {
			return true
		}
	}
	return false
}

// P9.3: Touch, Join and Common of all pairs of runs on a line, against the places that both have.
func TestTouchJoinCommonByPlaces(t *testing.T) {
	for _, line := range lines() {
		list := allPlaced(line)
		for _, a := range list {
			for _, b := range list {
				touch := touches(a.has, b.has)
				if got := Touch(a.run, b.run); got != touch {
					t.Fatalf("Touch(%v, %v) = %t", a.run, b.run, got)
				}
				var join api.Run
				if touch {
					join, _ = put(a.has, b.has, func(x, y bool) bool { return x || y }).runOn(line)
				}
				if got, is := Join(a.run, b.run); got != join || is != touch {
					t.Fatalf("Join(%v, %v) = %v, %t; want %v, %t", a.run, b.run, got, is, join, touch)
				}
				common, meet := put(a.has, b.has, func(x, y bool) bool { return x && y }).runOn(line)
				if got, is := Common(a.run, b.run); got != common || is != meet {
					t.Fatalf("Common(%v, %v) = %v, %t; want %v, %t", a.run, b.run, got, is, common, meet)
				}
			}
		}
	}
}

// later and earlier return one of two ends.
func later(a, b api.End) api.End {
	if isAhead(a, b) {
		return b
	}
	return a
}

func earlier(a, b api.End) api.End {
	if isAhead(a, b) {
		return a
	}
	return b
}

// P9.3: Touch, Join and Common of runs of all sizes, reckoned with numbers of any size.
func TestTouchJoinCommonOfAllSizes(t *testing.T) {
	list := edgeRuns()
	for _, a := range list {
		for _, b := range list {
			both := api.Run{Lo: later(a.Lo, b.Lo), Hi: earlier(a.Hi, b.Hi)}
			gap := new(big.Int).Sub(onLine(both.Lo), onLine(both.Hi))
			touch, meet := gap.Cmp(big.NewInt(1)) <= 0, gap.Sign() <= 0
			var join, common api.Run
			if touch {
				join = api.Run{Lo: earlier(a.Lo, b.Lo), Hi: later(a.Hi, b.Hi)}
			}
			if meet {
				common = both
			}
			if got := Touch(a, b); got != touch {
				t.Fatalf("Touch(%v, %v) = %t", a, b, got)
			}
			if got, is := Join(a, b); got != join || is != touch {
				t.Fatalf("Join(%v, %v) = %v, %t; want %v, %t", a, b, got, is, join, touch)
			}
			if got, is := Common(a, b); got != common || is != meet {
				t.Fatalf("Common(%v, %v) = %v, %t; want %v, %t", a, b, got, is, common, meet)
			}
		}
	}
}

// P9.3: the examples of the chapter, and runs at the ends of the days.
func TestTouchJoinCommonExamples(t *testing.T) {
	for _, x := range []struct {
		a, b, join, common api.Run
		touch, meet        bool
	}{
		{days(1, 3), days(4, 5), days(1, 5), api.Run{}, true, false},
		{days(1, 3), days(5, 6), api.Run{}, api.Run{}, false, false},
		{api.Run{Lo: low, Hi: day(3)}, api.Run{Lo: day(2), Hi: high}, api.Run{Lo: low, Hi: high}, days(2, 3), true, true},
		{days(1, 3), days(3, 9), days(1, 9), days(3, 3), true, true},
		{days(0, most), days(least, -1), days(least, most), api.Run{}, true, false},
		{days(most, most), days(least, least), api.Run{}, api.Run{}, false, false}, // one wraps around to the other one
		{api.Run{Lo: day(most), Hi: high}, api.Run{Lo: low, Hi: day(least)}, api.Run{}, api.Run{}, false, false},
		{api.Run{Lo: day(0), Hi: high}, days(0, most), api.Run{Lo: day(0), Hi: high}, days(0, most), true, true},
		{api.Run{Lo: low, Hi: day(0)}, days(least, 0), api.Run{Lo: low, Hi: day(0)}, days(least, 0), true, true},
		{api.Run{Lo: day(most), Hi: high}, days(0, most-1), api.Run{Lo: day(0), Hi: high}, api.Run{}, true, false},
		{days(most-1, most-1), days(most, most), days(most-1, most), api.Run{}, true, false},
		{days(0, 0), days(0, 0), days(0, 0), days(0, 0), true, true},
		{days(-1, -1), days(0, 0), days(-1, 0), api.Run{}, true, false},
		{days(-1, -1), days(1, 1), api.Run{}, api.Run{}, false, false},
	} {
		if got := Touch(x.a, x.b); got != x.touch {
			t.Errorf("Touch(%v, %v) = %t", x.a, x.b, got)
		}
		if got, is := Join(x.a, x.b); got != x.join || is != x.touch {
			t.Errorf("Join(%v, %v) = %v, %t; want %v, %t", x.a, x.b, got, is, x.join, x.touch)
		}
		if got, is := Common(x.a, x.b); got != x.common || is != x.meet {
			t.Errorf("Common(%v, %v) = %v, %t; want %v, %t", x.a, x.b, got, is, x.common, x.meet)
		}
	}
}

// P9.2, P9.3: a run that is not right has no day, is within none, and touches none, on either side.
func TestWrongRunsHaveNothing(t *testing.T) {
	others := []api.Run{{}, {Lo: low, Hi: high}, days(-8, 9), days(least, most), days(5, 3), {Lo: high, Hi: low}}
	for _, x := range wrongRuns() {
		for _, n := range []int64{least, -1, 0, 1, 4, 5, most} {
			if Has(x.run, n) {
				t.Errorf("Has(%v, %d)", x.run, n)
			}
		}
		for _, other := range append(others, x.run) {
			for _, p := range [][2]api.Run{{x.run, other}, {other, x.run}} {
				join, touch := Join(p[0], p[1])
				common, meet := Common(p[0], p[1])
				if Within(p[0], p[1]) || Touch(p[0], p[1]) || touch || meet || join != (api.Run{}) || common != (api.Run{}) {
					t.Fatalf("%v and %v: Join %v, %t; Common %v, %t", p[0], p[1], join, touch, common, meet)
				}
			}
		}
	}
}

// anyRuns returns right and wrong runs, among them many that have fields in common.
func anyRuns() []api.Run {
	var list []api.Run
	random := rand.New(rand.NewSource(9))
	near := func() api.End { return api.End{Inf: int8(random.Intn(5) - 2), Day: int64(random.Intn(3) - 1)} }
	far := func() api.End { return api.End{Inf: int8(random.Intn(256) - 128), Day: int64(random.Uint64())} }
	for range 150 {
		list = append(list, api.Run{Lo: near(), Hi: near()}, api.Run{Lo: near(), Hi: far()}, api.Run{Lo: far(), Hi: far()})
	}
	for _, x := range wrongRuns()[:40] {
		list = append(list, x.run)
	}
	return append(list, edgeRuns()...)
}

// P9.4: Compare looks at Inf and Day of Lo, then at those of Hi, of all runs.
func TestCompare(t *testing.T) {
	keys := func(r api.Run) []int64 {
		return []int64{int64(r.Lo.Inf), r.Lo.Day, int64(r.Hi.Inf), r.Hi.Day}
	}
	list := anyRuns()
	for _, a := range list {
		for _, b := range list {
			if got, want := Compare(a, b), slices.Compare(keys(a), keys(b)); got != want {
				t.Fatalf("Compare(%v, %v) = %d; want %d", a, b, got, want)
			}
		}
	}
}

// P9.4: Lo goes ahead of Hi, and infinities are beyond the first and the last day.
func TestCompareExamples(t *testing.T) {
	for _, x := range []struct {
		a, b api.Run
		want int
	}{
		{days(1, 9), days(2, 3), -1},
		{days(2, 3), days(1, 9), 1},
		{days(1, 3), days(1, 4), -1},
		{days(1, 4), days(1, 3), 1},
		{days(1, 4), days(1, 4), 0},
		{api.Run{Lo: low, Hi: day(most)}, days(least, least), -1},
		{api.Run{Lo: low, Hi: high}, api.Run{Lo: low, Hi: day(most)}, 1},
		{days(5, 3), days(5, 4), -1},
		{api.Run{Lo: high, Hi: low}, api.Run{Lo: low, Hi: high}, 1},
		{api.Run{Lo: api.End{Inf: 2}, Hi: day(0)}, api.Run{Lo: high, Hi: day(9)}, 1},
		{api.Run{Lo: day(0), Hi: api.End{Inf: 1, Day: 5}}, api.Run{Lo: day(0), Hi: high}, 1},
	} {
		if got := Compare(x.a, x.b); got != x.want {
			t.Errorf("Compare(%v, %v) = %d; want %d", x.a, x.b, got, x.want)
		}
	}
}

// P9.5: how many days a run has, reckoned with numbers of any size.
func TestLen(t *testing.T) {
	for _, r := range edgeRuns() {
		want, wantErr := int64(0), api.OK
		count := new(big.Int).Sub(onLine(r.Hi), onLine(r.Lo))
		count.Add(count, big.NewInt(1))
		if r.Lo.Inf != 0 || r.Hi.Inf != 0 {
			wantErr = api.ErrNone
		} else if !count.IsInt64() {
			wantErr = api.ErrOverflow
		} else {
			want = count.Int64()
		}
		if got, err := Len(r); got != want || err != wantErr {
			t.Errorf("Len(%v) = %d, %d; want %d, %d", r, got, err, want, wantErr)
		}
	}
}

// P9.5: lengths at the end of int64, and errors, of which that of Check is the first.
func TestLenExamples(t *testing.T) {
	for _, x := range []struct {
		run  api.Run
		want int64
		err  api.Errno
	}{
		{days(3, 5), 3, api.OK},
		{days(0, 0), 1, api.OK},
		{days(-5, 4), 10, api.OK},
		{days(most, most), 1, api.OK},
		{days(least, least), 1, api.OK},
		{days(1, most), most, api.OK},
		{days(0, most-1), most, api.OK},
		{days(0, most), 0, api.ErrOverflow},
		{days(-1, most), 0, api.ErrOverflow},
		{days(least, -2), most, api.OK},
		{days(least, -1), 0, api.ErrOverflow},
		{days(least, 0), 0, api.ErrOverflow},
		{days(least, most), 0, api.ErrOverflow},
		{api.Run{Lo: low, Hi: day(3)}, 0, api.ErrNone},
		{api.Run{Lo: day(3), Hi: high}, 0, api.ErrNone},
		{api.Run{Lo: low, Hi: high}, 0, api.ErrNone},
	} {
		if got, err := Len(x.run); got != x.want || err != x.err {
			t.Errorf("Len(%v) = %d, %d; want %d, %d", x.run, got, err, x.want, x.err)
		}
	}
	for _, x := range wrongRuns() {
		if got, err := Len(x.run); got != 0 || err != x.err {
			t.Errorf("Len(%v) = %d, %d; want %d", x.run, got, err, x.err)
		}
	}
}

// shifted returns an end k days on, and whether there is one; an infinity stays.
func shifted(x api.End, k int64) (api.End, bool) {
	if x.Inf != 0 {
		return x, true
	}
	sum := new(big.Int).Add(big.NewInt(x.Day), big.NewInt(k))
	return day(sum.Int64()), sum.IsInt64()
}

// P9.6: the run k days on, reckoned with numbers of any size.
func TestShift(t *testing.T) {
	for _, r := range edgeRuns() {
		for _, k := range edgeDays {
			lo, loFits := shifted(r.Lo, k)
			hi, hiFits := shifted(r.Hi, k)
			want, wantErr := api.Run{Lo: lo, Hi: hi}, api.OK
			if !loFits || !hiFits {
				want, wantErr = api.Run{}, api.ErrOverflow
			}
			if got, err := Shift(r, k); got != want || err != wantErr {
				t.Fatalf("Shift(%v, %d) = %v, %d; want %v, %d", r, k, got, err, want, wantErr)
			}
		}
	}
}

// P9.6: shifts at the ends of int64, and errors, of which that of Check is the first.
func TestShiftExamples(t *testing.T) {
	for _, x := range []struct {
		run  api.Run
		k    int64
		want api.Run
		err  api.Errno
	}{
		{api.Run{Lo: day(3), Hi: high}, -4, api.Run{Lo: day(-1), Hi: high}, api.OK},
		{days(0, most), 1, api.Run{}, api.ErrOverflow},
		{days(0, most), -1, days(-1, most-1), api.OK},
		{days(least, 0), -1, api.Run{}, api.ErrOverflow},
		{days(least, -1), most, days(-1, most-1), api.OK},
		{days(0, most), least, days(least, -1), api.OK},
		{days(-1, 5), least, api.Run{}, api.ErrOverflow},
		{days(5, 6), most - 5, api.Run{}, api.ErrOverflow}, // Hi alone
		{days(-6, -5), least + 5, api.Run{}, api.ErrOverflow},
		{days(most, most), most, api.Run{}, api.ErrOverflow},
		{api.Run{Lo: low, Hi: high}, most, api.Run{Lo: low, Hi: high}, api.OK},
		{api.Run{Lo: low, Hi: high}, least, api.Run{Lo: low, Hi: high}, api.OK},
		{api.Run{Lo: low, Hi: day(most)}, 1, api.Run{}, api.ErrOverflow},
		{api.Run{Lo: day(least), Hi: high}, -1, api.Run{}, api.ErrOverflow},
		{days(3, 5), 0, days(3, 5), api.OK},
	} {
		if got, err := Shift(x.run, x.k); got != x.want || err != x.err {
			t.Errorf("Shift(%v, %d) = %v, %d; want %v, %d", x.run, x.k, got, err, x.want, x.err)
		}
	}
	for _, x := range wrongRuns() {
		for _, k := range []int64{least, -1, 0, 1, most} {
			if got, err := Shift(x.run, k); got != (api.Run{}) || err != x.err {
				t.Errorf("Shift(%v, %d) = %v, %d; want %d", x.run, k, got, err, x.err)
			}
		}
	}
}

// P9.8: Touch, Join and Common do not depend on the order; Common is within both, and both are within Join.
func TestOrderOfArguments(t *testing.T) {
	list := anyRuns()
	for _, a := range list {
		for _, b := range list {
			join, touch := Join(a, b)
			common, meet := Common(a, b)
			otherJoin, otherTouch := Join(b, a)
			otherCommon, otherMeet := Common(b, a)
			if Touch(a, b) != Touch(b, a) || join != otherJoin || touch != otherTouch || common != otherCommon || meet != otherMeet {
				t.Fatalf("%v and %v: the order of the arguments matters", a, b)
			}
			if meet && !(Within(common, a) && Within(common, b)) {
				t.Fatalf("Common(%v, %v) = %v is not within both", a, b, common)
			}
			if touch && !(Within(a, join) && Within(b, join)) {
				t.Fatalf("Join(%v, %v) = %v does not have both within it", a, b, join)
			}
		}
	}
}

// P9.8: a run joined with one within it is the run, and what they have in common is the other one.
func TestJoinWithin(t *testing.T) {
	list := edgeRuns()
	for _, a := range list {
		for _, b := range list {
			if !Within(a, b) {
				continue
			}
			if got, is := Join(b, a); got != b || !is {
				t.Fatalf("Join(%v, %v) = %v, %t", b, a, got, is)
			}
			if got, is := Common(b, a); got != a || !is {
				t.Fatalf("Common(%v, %v) = %v, %t", b, a, got, is)
			}
		}
	}
}

// P9.8: a shift by k, and then by -k, leads back.
func TestShiftBack(t *testing.T) {
	for _, r := range edgeRuns() {
		for _, k := range edgeDays {
			there, err := Shift(r, k)
			if err != api.OK || k == least { // -k is no int64 then
				continue
			}
			if got, err := Shift(there, -k); got != r || err != api.OK {
				t.Fatalf("Shift(Shift(%v, %d), %d) = %v, %d", r, k, -k, got, err)
			}
		}
	}
}

// P9.2, P9.5: Len counts the days that Has tells.
func TestLenCountsDays(t *testing.T) {
	for lo := int64(-6); lo <= 6; lo++ {
		for hi := lo; hi <= 6; hi++ {
			var count int64
			for n := int64(-9); n <= 9; n++ {
				if Has(days(lo, hi), n) {
					count++
				}
			}
			if got, err := Len(days(lo, hi)); got != count || err != api.OK {
				t.Errorf("Len(%d..%d) = %d, %d; want %d", lo, hi, got, err, count)
			}
		}
	}
}
