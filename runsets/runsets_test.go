package runsets

import (
	"math"
	"math/big"
	"math/rand"
	"slices"
	"testing"

	"circa/api"
)

const most, least = math.MaxInt64, math.MinInt64

var low, high = api.End{Inf: -1}, api.End{Inf: 1}

func day(n int64) api.End { return api.End{Day: n} }

func days(lo, hi int64) api.Run { return api.Run{Lo: day(lo), Hi: day(hi)} }

func upTo(hi int64) api.Run { return api.Run{Lo: low, Hi: day(hi)} }

func from(lo int64) api.Run { return api.Run{Lo: day(lo), Hi: high} }

var all = api.Run{Lo: low, Hi: high}

// wrongRuns are runs that are not right, and their errors.
var wrongRuns = []struct {
	run api.Run
	err api.Errno
}{
	{api.Run{Lo: api.End{Inf: 2}, Hi: high}, api.ErrForm},
	{api.Run{Lo: low, Hi: api.End{Inf: -2}}, api.ErrForm},
	{api.Run{Lo: api.End{Inf: -1, Day: 5}, Hi: day(9)}, api.ErrForm},
	{api.Run{Lo: day(0), Hi: api.End{Inf: 1, Day: 5}}, api.ErrForm},
	{api.Run{Lo: high, Hi: high}, api.ErrRange},
	{api.Run{Lo: low, Hi: low}, api.ErrRange},
	{api.Run{Lo: high, Hi: low}, api.ErrRange},
	{api.Run{Lo: high, Hi: day(0)}, api.ErrRange},
	{api.Run{Lo: day(0), Hi: low}, api.ErrRange},
	{days(1, 0), api.ErrOrder},
	{days(5, 3), api.ErrOrder},
	{days(most, least), api.ErrOrder},
}

// spaced returns n runs of two days each, with two days between them.
func spaced(n int) []api.Run {
	list := make([]api.Run, n)
	for i := range list {
		list[i] = days(int64(4*i), int64(4*i+1))
	}
	return list
}

// lines returns ends of which the days come one behind another: the first and the last days, and some about 0.
func lines() [][]api.End {
	var list [][]api.End
	for _, first := range []int64{least, -2, most - 4} {
		line := []api.End{low}
		for n := range int64(5) {
			line = append(line, day(first+n))
		}
		list = append(list, append(line, high))
	}
	return list
}

// setsOn returns all run sets with ends on a line that begin at an index of it or behind it.
func setsOn(line []api.End, begin int) [][]api.Run {
	list := [][]api.Run{nil}
	last := len(line) - 1
	for i := begin; i < last; i++ {
		for j := max(i, 1); j <= last; j++ {
			for _, rest := range setsOn(line, j+2) {
				list = append(list, append([]api.Run{{Lo: line[i], Hi: line[j]}}, rest...))
			}
		}
	}
	return list
}

// edgeEnds are ends where something may go wrong, ascending.
func edgeEnds() []api.End {
	list := []api.End{low}
	for _, n := range []int64{least, least + 1, least + 2, -1 << 32, -2, -1, 0, 1, 2, 1 << 31, most - 2, most - 1, most} {
		list = append(list, day(n))
	}
	return append(list, high)
}

// randomSets returns run sets whose ends are chosen from the edge ends.
func randomSets(n int, random *rand.Rand) [][]api.Run {
	list := [][]api.Run{nil, {all}}
	for range n {
		var l []api.Run
		for i := 0; i < 3; i++ {
			l = append(l, randomRun(random))
		}
		list = append(list, piecesOf(l, nil, func(inA, inB bool) bool { return inA }))
	}
	return list
}

// randomRun returns a right run between two edge ends.
func randomRun(random *rand.Rand) api.Run {
	list := edgeEnds()
	i, j := random.Intn(len(list)-1), random.Intn(len(list)-1)
	return api.Run{Lo: list[min(i, j)], Hi: list[max(i, j)+1]}
}

// far is where infinity lies among numbers of any size: beyond all days.
var far = new(big.Int).Lsh(big.NewInt(1), 80)

var one = big.NewInt(1)

func onLine(x api.End) *big.Int {
	switch {
	case x.Inf < 0:
		return new(big.Int).Neg(far)
	case x.Inf > 0:
		return far
	}
	return big.NewInt(x.Day)
}

// endAt tells which end lies at a number, if it is that of a day or of an infinity.
func endAt(n *big.Int) (api.End, bool) {
	switch {
	case n.Cmp(far) == 0:
		return high, true
	case new(big.Int).Neg(n).Cmp(far) == 0:
		return low, true
	}
	return day(n.Int64()), n.IsInt64()
}

// covers reports whether a run of a list has the number.
func covers(l []api.Run, n *big.Int) bool {
	return slices.ContainsFunc(l, func(r api.Run) bool {
		return onLine(r.Lo).Cmp(n) <= 0 && n.Cmp(onLine(r.Hi)) <= 0
	})
}

// piecesOf returns the runs of all numbers for which it is asked whether lists of right runs have them: all numbers are cut where a run begins, or has ended.
// A piece between the days and an infinity is no run: it begins, or ends, at no end.
func piecesOf(a, b []api.Run, ask func(inA, inB bool) bool) []api.Run {
	beyond := new(big.Int).Add(far, one)
	cuts := []*big.Int{onLine(low), beyond}
	for _, r := range slices.Concat(a, b) {
		cuts = append(cuts, onLine(r.Lo), new(big.Int).Add(onLine(r.Hi), one))
	}
	slices.SortFunc(cuts, (*big.Int).Cmp)
	var list []api.Run
	var begin *big.Int
	for _, cut := range cuts {
		is := cut.Cmp(beyond) < 0 && ask(covers(a, cut), covers(b, cut))
		if is && begin == nil {
			begin = cut
		}
		if !is && begin != nil {
			lo, isLo := endAt(begin)
			hi, isHi := endAt(new(big.Int).Sub(cut, one))
			if isLo && isHi {
				list = append(list, api.Run{Lo: lo, Hi: hi})
			}
			begin = nil
		}
	}
	return list
}

// isNew reports whether a list is new memory without spare capacity: a change of it leaves the others as they are.
func isNew(l []api.Run, others ...[]api.Run) bool {
	if len(l) == 0 {
		return true
	}
	for _, other := range others {
		for i := range other {
			if &other[i] == &l[0] || &other[i] == &l[len(l)-1] {
				return false
			}
		}
	}
	return cap(l) == len(l)
}

// P10.1: run sets on lines are right.
func TestCheckOfSets(t *testing.T) {
	for _, line := range lines() {
		for _, l := range setsOn(line, 0) {
			if err := Check(l); err != api.OK {
				t.Errorf("Check(%v) = %d", l, err)
			}
		}
	}
	for _, l := range [][]api.Run{nil, {}, {all}, {days(1, 2), days(4, 4)}, {upTo(least), from(most)}, {upTo(3), days(5, 5), from(7)}, spaced(api.MaxRuns)} {
		if err := Check(l); err != api.OK {
			t.Errorf("Check(%.3v) = %d", l, err)
		}
	}
}

// P10.1: lists of right runs that are out of order, or touch.
func TestCheckOfOrder(t *testing.T) {
	for _, l := range [][]api.Run{
		{days(1, 2), days(3, 4)},
		{days(5, 6), days(1, 2)},
		{days(1, 2), days(2, 3)},
		{days(1, 2), days(1, 2)},
		{days(1, 9), days(3, 4)},
		{days(3, 4), days(1, 9)},
		{days(1, 2), days(5, 6), days(7, 9)},
		{days(1, 2), days(9, 9), days(5, 6)},
		{upTo(3), upTo(5)},
		{upTo(3), upTo(3)},
		{upTo(3), from(4)},
		{from(4), upTo(2)},
		{from(4), days(1, 2)},
		{from(4), days(7, 9)},
		{days(5, 9), upTo(3)},
		{all, all},
		{all, days(1, 2)},
		{days(0, most), from(0)},
		{days(0, most), from(most)},
		{days(0, most), days(least, -2)},
		{upTo(most), days(least, least)},
		{days(most, most), days(most, most)},
		{upTo(least), days(least+1, 0)},
	} {
		if err := Check(l); err != api.ErrOrder {
			t.Errorf("Check(%v) = %d", l, err)
		}
	}
}

// P10.1: of runs that are not right, that stands which comes first; an earlier run out of order goes ahead, a later one does not.
func TestCheckOfWrongRuns(t *testing.T) {
	for _, x := range wrongRuns {
		for _, y := range wrongRuns {
			for _, l := range [][]api.Run{
				{x.run},
				{x.run, y.run},
				{x.run, x.run},
				{days(-9, -7), x.run, y.run},
				{days(-9, -7), days(-4, -4), x.run},
				{days(-9, -7), x.run, days(-9, -7)},
				{x.run, days(5, 6), days(1, 2)},
				{from(5), x.run},
			} {
				if err := Check(l); err != x.err {
					t.Fatalf("Check(%v) = %d; want %d", l, err, x.err)
				}
			}
		}
		for _, l := range [][]api.Run{{days(5, 6), days(1, 2), x.run}, {days(1, 2), days(3, 4), x.run}} {
			if err := Check(l); err != api.ErrOrder {
				t.Errorf("Check(%v) = %d", l, err)
			}
		}
	}
}

// P10.1: a list of more than MaxRuns runs is ErrLimit, whatever its runs are.
func TestCheckOfLimit(t *testing.T) {
	tooLong := spaced(api.MaxRuns + 1)
	for _, first := range []api.Run{tooLong[0], all, {Lo: high, Hi: low}, {Lo: api.End{Inf: 2}}} {
		tooLong[0] = first
		if err := Check(tooLong); err != api.ErrLimit {
			t.Errorf("Check of %d runs, the first one %v: %d", len(tooLong), first, err)
		}
	}
	full := spaced(api.MaxRuns)
	full[api.MaxRuns-1] = full[api.MaxRuns-2]
	if err := Check(full); err != api.ErrOrder {
		t.Errorf("Check of %d runs, of which the last two are equal: %d", len(full), err)
	}
}

// P10.1: Of returns the run set, as reckoned with numbers of any size.
func TestOf(t *testing.T) {
	random := rand.New(rand.NewSource(10))
	for range 4000 {
		l := make([]api.Run, random.Intn(7))
		for i := range l {
			l[i] = randomRun(random)
		}
		given := slices.Clone(l)
		want := piecesOf(l, nil, func(inA, inB bool) bool { return inA })
		got, err := Of(l)
		if !slices.Equal(got, want) || err != api.OK {
			t.Fatalf("Of(%v) = %v, %d; want %v", l, got, err, want)
		}
		if !slices.Equal(l, given) || !isNew(got, l) || Check(got) != api.OK {
			t.Fatalf("Of(%v): the argument is %v, the capacity %d of %d", given, l, cap(got), len(got))
		}
	}
}

// P10.1: Of joins runs that touch, are equal, or lie within each other.
func TestOfExamples(t *testing.T) {
	for _, x := range []struct{ l, want []api.Run }{
		{nil, nil},
		{[]api.Run{}, nil},
		{[]api.Run{days(1, 2)}, []api.Run{days(1, 2)}},
		{[]api.Run{days(5, 9), days(1, 2), days(3, 3), days(8, 12)}, []api.Run{days(1, 3), days(5, 12)}},
		{[]api.Run{days(1, 9), days(1, 2), days(4, 5), days(9, 9)}, []api.Run{days(1, 9)}},
		{[]api.Run{days(1, 2), days(1, 9), days(11, 12)}, []api.Run{days(1, 9), days(11, 12)}},
		{[]api.Run{days(1, 2), days(1, 2), days(1, 2)}, []api.Run{days(1, 2)}},
		{[]api.Run{days(5, 6), days(3, 4), days(1, 2)}, []api.Run{days(1, 6)}},
		{[]api.Run{days(1, 9), days(3, 4), days(8, 12), days(14, 14)}, []api.Run{days(1, 12), days(14, 14)}},
		{[]api.Run{from(1), upTo(0)}, []api.Run{all}},
		{[]api.Run{from(2), upTo(0)}, []api.Run{upTo(0), from(2)}},
		{[]api.Run{days(0, most), from(0)}, []api.Run{from(0)}},
		{[]api.Run{from(most), days(0, most)}, []api.Run{from(0)}},
		{[]api.Run{days(least, 0), upTo(least)}, []api.Run{upTo(0)}},
		{[]api.Run{days(most, most), days(least, least)}, []api.Run{days(least, least), days(most, most)}},
		{[]api.Run{days(least, -1), days(0, most)}, []api.Run{days(least, most)}},
		{slices.Repeat([]api.Run{days(3, 4)}, api.MaxRuns), []api.Run{days(3, 4)}},
		{spaced(api.MaxRuns), spaced(api.MaxRuns)},
	} {
		if got, err := Of(x.l); !slices.Equal(got, x.want) || err != api.OK {
			t.Errorf("Of(%.5v) = %.5v, %d; want %.5v", x.l, got, err, x.want)
		}
	}
}

// P10.1: the errors of Of: the limit, then the first run that is not right, however the runs are ordered.
func TestOfErrors(t *testing.T) {
	for _, x := range wrongRuns {
		for _, y := range wrongRuns {
			for _, l := range [][]api.Run{
				{x.run},
				{x.run, y.run},
				{days(5, 6), days(1, 2), x.run, y.run},
				{days(1, 2), days(1, 2), x.run, days(1, 2)},
				append(spaced(api.MaxRuns-1), x.run),
			} {
				if got, err := Of(l); len(got) != 0 || err != x.err {
					t.Fatalf("Of(%.5v) = %v, %d; want %d", l, got, err, x.err)
				}
			}
		}
		if got, err := Of(append([]api.Run{x.run}, spaced(api.MaxRuns)...)); len(got) != 0 || err != api.ErrLimit {
			t.Errorf("Of of %v and MaxRuns other runs = %v, %d", x.run, got, err)
		}
	}
	for _, l := range [][]api.Run{slices.Repeat([]api.Run{days(3, 4)}, api.MaxRuns+1), spaced(api.MaxRuns + 1)} {
		if got, err := Of(l); len(got) != 0 || err != api.ErrLimit {
			t.Errorf("Of of %d runs = %d runs, %d", len(l), len(got), err)
		}
	}
}

// P10.2: the days of a list are those of its runs, in whatever order they are.
func TestHas(t *testing.T) {
	random := rand.New(rand.NewSource(11))
	for range 3000 {
		var l []api.Run
		for range random.Intn(5) {
			l = append(l, randomRun(random))
		}
		for _, x := range edgeEnds() {
			if x.Inf != 0 {
				continue
			}
			if got, want := Has(l, x.Day), covers(l, onLine(x)); got != want {
				t.Fatalf("Has(%v, %d) = %t", l, x.Day, got)
			}
		}
	}
}

// P10.2: runs that are not right have no days; others in the list have theirs. There is no limit of the list.
func TestHasOfAnyList(t *testing.T) {
	var wrong []api.Run
	for _, x := range wrongRuns {
		wrong = append(wrong, x.run)
	}
	for _, n := range []int64{least, -5, -1, 0, 1, 3, 4, 5, 9, most} {
		if Has(wrong, n) || Has(nil, n) {
			t.Errorf("Has(%v, %d)", wrong, n)
		}
	}
	mixed := slices.Concat([]api.Run{days(7, 9)}, wrong, []api.Run{days(1, 2), days(1, 3)})
	for n, want := range map[int64]bool{0: false, 1: true, 2: true, 3: true, 4: false, 6: false, 7: true, 9: true, 10: false} {
		if got := Has(mixed, n); got != want {
			t.Errorf("Has(%v, %d) = %t", mixed, n, got)
		}
	}
	long := spaced(api.MaxRuns + 1)
	if !Has(long, 4*api.MaxRuns) || Has(long, 4*api.MaxRuns-1) {
		t.Errorf("Has of %d runs", len(long))
	}
}

// P10.2: lists are the same if they have equal runs at equal indices.
func TestSame(t *testing.T) {
	for _, x := range []struct {
		a, b []api.Run
		want bool
	}{
		{nil, nil, true},
		{nil, []api.Run{}, true},
		{nil, []api.Run{days(0, 0)}, false},
		{[]api.Run{days(1, 2)}, []api.Run{days(1, 2)}, true},
		{[]api.Run{days(1, 2)}, []api.Run{days(1, 3)}, false},
		{[]api.Run{days(1, 2)}, []api.Run{days(0, 2)}, false},
		{[]api.Run{days(1, 2)}, []api.Run{days(1, 2), days(4, 5)}, false},
		{[]api.Run{days(1, 2), days(4, 5)}, []api.Run{days(1, 2)}, false},
		{[]api.Run{days(1, 2), days(4, 5)}, []api.Run{days(4, 5), days(1, 2)}, false},
		{[]api.Run{days(1, 2), days(3, 5)}, []api.Run{days(1, 5)}, false}, // the same days in other runs
		{[]api.Run{from(0)}, []api.Run{days(0, most)}, false},
		{[]api.Run{from(0)}, []api.Run{{Lo: day(0), Hi: api.End{Inf: 2}}}, false},
		{[]api.Run{from(0)}, []api.Run{{Lo: day(0), Hi: api.End{Inf: 1, Day: 7}}}, false},
		{[]api.Run{days(5, 3), {Lo: high, Hi: low}}, []api.Run{days(5, 3), {Lo: high, Hi: low}}, true},
		{spaced(api.MaxRuns + 1), spaced(api.MaxRuns + 1), true},
		{spaced(api.MaxRuns + 1), spaced(api.MaxRuns + 2), false},
	} {
		if got := Same(x.a, x.b); got != x.want {
			t.Errorf("Same(%.4v, %.4v) = %t", x.a, x.b, got)
		}
		if got := Same(x.b, x.a); got != x.want {
			t.Errorf("Same(%.4v, %.4v) = %t", x.b, x.a, got)
		}
	}
}

// P10.5: the first end and the last one.
func TestMinMax(t *testing.T) {
	for _, x := range []struct {
		l      []api.Run
		lo, hi api.End
	}{
		{[]api.Run{days(3, 4)}, day(3), day(4)},
		{[]api.Run{days(0, 0)}, day(0), day(0)},
		{[]api.Run{days(3, 4), from(9)}, day(3), high},
		{[]api.Run{from(1)}, day(1), high},
		{[]api.Run{upTo(1)}, low, day(1)},
		{[]api.Run{all}, low, high},
		{[]api.Run{upTo(least), days(-3, 5), from(most)}, low, high},
		{[]api.Run{days(least, 0), days(7, 7), days(9, most)}, day(least), day(most)},
		{spaced(api.MaxRuns), day(0), day(4*api.MaxRuns - 3)},
	} {
		if got, err := Min(x.l); got != x.lo || err != api.OK {
			t.Errorf("Min(%.4v) = %v, %d; want %v", x.l, got, err, x.lo)
		}
		if got, err := Max(x.l); got != x.hi || err != api.OK {
			t.Errorf("Max(%.4v) = %v, %d; want %v", x.l, got, err, x.hi)
		}
	}
}

// P10.5: Min and Max of the empty list are ErrEmpty, Count of it is 0.
func TestEmpty(t *testing.T) {
	for _, l := range [][]api.Run{nil, {}} {
		if got, err := Min(l); got != (api.End{}) || err != api.ErrEmpty {
			t.Errorf("Min(none) = %v, %d", got, err)
		}
		if got, err := Max(l); got != (api.End{}) || err != api.ErrEmpty {
			t.Errorf("Max(none) = %v, %d", got, err)
		}
		if got, err := Count(l); got != 0 || err != api.OK {
			t.Errorf("Count(none) = %v, %d", got, err)
		}
	}
}

// wrongSets are lists that are no run sets, and their errors.
func wrongSets() map[api.Errno][][]api.Run {
	sets := map[api.Errno][][]api.Run{
		api.ErrLimit: {spaced(api.MaxRuns + 1), slices.Repeat([]api.Run{all}, api.MaxRuns+1), slices.Repeat([]api.Run{days(5, 3)}, api.MaxRuns+1)},
		api.ErrOrder: {{days(1, 2), days(3, 4)}, {days(5, 6), days(1, 2)}, {all, all}, {days(0, most), from(0)}, {from(5), {Lo: low, Hi: day(3)}}},
	}
	for _, x := range wrongRuns {
		sets[x.err] = append(sets[x.err], []api.Run{x.run}, []api.Run{days(-9, -8), x.run}, []api.Run{x.run, days(5, 6), days(1, 2)})
	}
	return sets
}

// P10.3, P10.5, P10.6: the functions of one list return the error of Check.
func TestErrorsOfOneSet(t *testing.T) {
	for want, sets := range wrongSets() {
		for _, l := range sets {
			if got, err := Min(l); got != (api.End{}) || err != want {
				t.Errorf("Min(%.3v) = %v, %d; want %d", l, got, err, want)
			}
			if got, err := Max(l); got != (api.End{}) || err != want {
				t.Errorf("Max(%.3v) = %v, %d; want %d", l, got, err, want)
			}
			if got, err := Count(l); got != 0 || err != want {
				t.Errorf("Count(%.3v) = %d, %d; want %d", l, got, err, want)
			}
			if got, err := Text(l); got != "" || err != want {
				t.Errorf("Text(%.3v) = %.60q, %d; want %d", l, got, err, want)
			}
			if got, err := Complement(l); len(got) != 0 || err != want {
				t.Errorf("Complement(%.3v) = %v, %d; want %d", l, got, err, want)
			}
		}
	}
}

// P10.5: how many days a set has, reckoned with numbers of any size.
func TestCount(t *testing.T) {
	random := rand.New(rand.NewSource(12))
	sets := randomSets(3000, random)
	for _, line := range lines() {
		sets = append(sets, setsOn(line, 0)...)
	}
	for _, l := range sets {
		sum, wantErr := new(big.Int), api.OK
		for _, r := range l {
			sum.Add(sum, one).Add(sum, onLine(r.Hi)).Sub(sum, onLine(r.Lo))
		}
		if slices.ContainsFunc(l, func(r api.Run) bool { return r.Lo == low || r.Hi == high }) {
			wantErr = api.ErrNone
		} else if !sum.IsInt64() {
			wantErr = api.ErrOverflow
		}
		want := int64(0)
		if wantErr == api.OK {
			want = sum.Int64()
		}
		if got, err := Count(l); got != want || err != wantErr {
			t.Fatalf("Count(%v) = %d, %d; want %d, %d", l, got, err, want, wantErr)
		}
	}
}

// P10.5: counts at the end of int64; an infinite end goes ahead of a count that does not fit.
func TestCountExamples(t *testing.T) {
	for _, x := range []struct {
		l    []api.Run
		want int64
		err  api.Errno
	}{
		{[]api.Run{days(1, 3), days(7, 7)}, 4, api.OK},
		{[]api.Run{days(1, most)}, most, api.OK},
		{[]api.Run{days(0, most)}, 0, api.ErrOverflow},
		{[]api.Run{days(-5, -5), days(2, most)}, most, api.OK},
		{[]api.Run{days(-5, -5), days(1, most)}, 0, api.ErrOverflow},
		{[]api.Run{days(-5, -4), days(2, most)}, 0, api.ErrOverflow},
		{[]api.Run{days(least, least), days(-2, -2), days(3, most)}, most, api.OK},
		{[]api.Run{days(least, -2)}, most, api.OK},
		{[]api.Run{days(least, -1)}, 0, api.ErrOverflow},
		{[]api.Run{days(least, -1), days(1, 9)}, 0, api.ErrOverflow},
		{[]api.Run{days(least, -2), days(0, 0)}, 0, api.ErrOverflow},
		{[]api.Run{days(least, -1), from(1)}, 0, api.ErrNone},
		{[]api.Run{days(least, -5), days(-3, 7), from(9)}, 0, api.ErrNone},
		{[]api.Run{upTo(least), days(0, most)}, 0, api.ErrNone},
		{[]api.Run{upTo(5)}, 0, api.ErrNone},
		{[]api.Run{from(5)}, 0, api.ErrNone},
		{[]api.Run{all}, 0, api.ErrNone},
		{spaced(api.MaxRuns), 2 * api.MaxRuns, api.OK},
	} {
		if got, err := Count(x.l); got != x.want || err != x.err {
			t.Errorf("Count(%.4v) = %d, %d; want %d, %d", x.l, got, err, x.want, x.err)
		}
	}
}
