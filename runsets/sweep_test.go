package runsets

import (
	"math/rand"
	"slices"
	"testing"

	"circa/api"
)

// operation is a function of two run sets, and what it asks of a day.
type operation struct {
	name string
	call func(a, b []api.Run) ([]api.Run, api.Errno)
	ask  func(inA, inB bool) bool
}

var operations = []operation{
	{"Union", Union, func(inA, inB bool) bool { return inA || inB }},
	{"Common", Common, func(inA, inB bool) bool { return inA && inB }},
	{"Without", Without, func(inA, inB bool) bool { return inA && !inB }},
}

// check compares what an operation makes of two run sets with what is reckoned with numbers of any size.
func (o operation) check(t *testing.T, a, b []api.Run) {
	t.Helper()
	givenA, givenB := slices.Clone(a), slices.Clone(b)
	want := piecesOf(a, b, o.ask)
	got, err := o.call(a, b)
	if !slices.Equal(got, want) || err != api.OK {
		t.Fatalf("%s(%v; %v) = %v, %d; want %v", o.name, a, b, got, err, want)
	}
	if !slices.Equal(a, givenA) || !slices.Equal(b, givenB) || !isNew(got, a, b) {
		t.Fatalf("%s(%v; %v): the arguments are %v; %v, the capacity %d of %d", o.name, givenA, givenB, a, b, cap(got), len(got))
	}
}

// isWithin reports whether each run of a lies between the ends of a run of b.
func isWithin(a, b []api.Run) bool {
	for _, x := range a {
		if !slices.ContainsFunc(b, func(y api.Run) bool {
			return onLine(y.Lo).Cmp(onLine(x.Lo)) <= 0 && onLine(x.Hi).Cmp(onLine(y.Hi)) <= 0
		}) {
			return false
		}
	}
	return true
}

// P10.3, P10.4: all pairs of run sets on lines.
func TestPairsOnLines(t *testing.T) {
	for _, line := range lines() {
		sets := setsOn(line, 0)
		for _, a := range sets {
			for _, b := range sets {
				for _, o := range operations {
					o.check(t, a, b)
				}
				if got, err := Within(a, b); got != isWithin(a, b) || err != api.OK {
					t.Fatalf("Within(%v; %v) = %t, %d", a, b, got, err)
				}
			}
		}
	}
}

// P10.3, P10.4: run sets of all sizes, with ends at those of the days.
func TestPairsOfAllSizes(t *testing.T) {
	random := rand.New(rand.NewSource(13))
	sets := randomSets(150, random)
	for _, a := range sets {
		for _, b := range sets {
			for _, o := range operations {
				o.check(t, a, b)
			}
			if got, err := Within(a, b); got != isWithin(a, b) || err != api.OK {
				t.Fatalf("Within(%v; %v) = %t, %d", a, b, got, err)
			}
		}
	}
}

// P10.3: the days of Union, Common and Without, one by one.
func TestPairsDayByDay(t *testing.T) {
	random := rand.New(rand.NewSource(14))
	set := func() []api.Run {
		var l []api.Run
		for n := int64(random.Intn(4)); n < 40; n += int64(2 + random.Intn(6)) {
			next := n + int64(random.Intn(5))
			l = append(l, days(n, next))
			n = next
		}
		return l
	}
	for range 2000 {
		a, b := set(), set()
		for _, o := range operations {
			got, err := o.call(a, b)
			if err != api.OK || Check(got) != api.OK {
				t.Fatalf("%s(%v; %v) = %v, %d", o.name, a, b, got, err)
			}
			for n := int64(-2); n < 60; n++ {
				if Has(got, n) != o.ask(Has(a, n), Has(b, n)) {
					t.Fatalf("%s(%v; %v) = %v: the day %d", o.name, a, b, got, n)
				}
			}
		}
	}
}

// P10.3: the examples of the chapter, and sets beside each other, equal, and within each other.
func TestPairsExamples(t *testing.T) {
	for _, x := range []struct{ a, b, union, common, without []api.Run }{
		{nil, nil, nil, nil, nil},
		{[]api.Run{days(1, 5)}, nil, []api.Run{days(1, 5)}, nil, []api.Run{days(1, 5)}},
		{nil, []api.Run{days(1, 5)}, []api.Run{days(1, 5)}, nil, nil},
		{[]api.Run{days(1, 2), days(5, 6)}, []api.Run{days(3, 3)}, []api.Run{days(1, 3), days(5, 6)}, nil, []api.Run{days(1, 2), days(5, 6)}},
		{[]api.Run{days(1, 2), days(4, 5)}, []api.Run{days(3, 3)}, []api.Run{days(1, 5)}, nil, []api.Run{days(1, 2), days(4, 5)}},
		{[]api.Run{days(1, 5), from(9)}, []api.Run{days(4, 10)}, []api.Run{from(1)}, []api.Run{days(4, 5), days(9, 10)}, []api.Run{days(1, 3), from(11)}},
		{[]api.Run{days(1, 9)}, []api.Run{days(3, 4), days(6, 6)}, []api.Run{days(1, 9)}, []api.Run{days(3, 4), days(6, 6)}, []api.Run{days(1, 2), days(5, 5), days(7, 9)}},
		{[]api.Run{days(3, 4)}, []api.Run{days(1, 9)}, []api.Run{days(1, 9)}, []api.Run{days(3, 4)}, nil},
		{[]api.Run{days(3, 4)}, []api.Run{days(3, 4)}, []api.Run{days(3, 4)}, []api.Run{days(3, 4)}, nil},
		{[]api.Run{from(0)}, []api.Run{days(0, most)}, []api.Run{from(0)}, []api.Run{days(0, most)}, nil},
		{[]api.Run{days(0, most)}, []api.Run{from(0)}, []api.Run{from(0)}, []api.Run{days(0, most)}, nil},
		{[]api.Run{from(-3)}, []api.Run{days(0, most)}, []api.Run{from(-3)}, []api.Run{days(0, most)}, []api.Run{days(-3, -1)}},
		{[]api.Run{upTo(3)}, []api.Run{days(least, 0)}, []api.Run{upTo(3)}, []api.Run{days(least, 0)}, []api.Run{days(1, 3)}},
		{[]api.Run{all}, []api.Run{days(least, most)}, []api.Run{all}, []api.Run{days(least, most)}, nil},
		{[]api.Run{all}, []api.Run{days(least, least), days(most, most)}, []api.Run{all}, []api.Run{days(least, least), days(most, most)}, []api.Run{days(least+1, most-1)}},
		{[]api.Run{upTo(least)}, []api.Run{from(most)}, []api.Run{upTo(least), from(most)}, nil, []api.Run{upTo(least)}},
		{[]api.Run{upTo(most)}, []api.Run{from(least)}, []api.Run{all}, []api.Run{days(least, most)}, nil},
	} {
		for i, want := range [][]api.Run{x.union, x.common, x.without} {
			if got, err := operations[i].call(x.a, x.b); !slices.Equal(got, want) || err != api.OK {
				t.Errorf("%s(%v; %v) = %v, %d; want %v", operations[i].name, x.a, x.b, got, err, want)
			}
		}
	}
}

// P10.3: the complement of all run sets on lines, and of sets of all sizes, reckoned with numbers of any size.
func TestComplement(t *testing.T) {
	sets := randomSets(3000, rand.New(rand.NewSource(15)))
	for _, line := range lines() {
		sets = append(sets, setsOn(line, 0)...)
	}
	for _, l := range sets {
		given := slices.Clone(l)
		want := piecesOf(l, nil, func(inA, inB bool) bool { return !inA })
		got, err := Complement(l)
		if !slices.Equal(got, want) || err != api.OK {
			t.Fatalf("Complement(%v) = %v, %d; want %v", l, got, err, want)
		}
		if !slices.Equal(l, given) || !isNew(got, l) {
			t.Fatalf("Complement(%v): the argument is %v, the capacity %d of %d", given, l, cap(got), len(got))
		}
	}
}

// P10.3: complements of sets that begin or end at an infinity, or at an end of the int64 days.
func TestComplementExamples(t *testing.T) {
	for _, x := range []struct{ l, want []api.Run }{
		{nil, []api.Run{all}},
		{[]api.Run{}, []api.Run{all}},
		{[]api.Run{all}, nil},
		{[]api.Run{days(least, most)}, nil},
		{[]api.Run{upTo(most)}, nil},
		{[]api.Run{from(least)}, nil},
		{[]api.Run{days(5, 5)}, []api.Run{upTo(4), from(6)}},
		{[]api.Run{upTo(0), days(5, 6)}, []api.Run{days(1, 4), from(7)}},
		{[]api.Run{from(0)}, []api.Run{upTo(-1)}},
		{[]api.Run{days(0, most)}, []api.Run{upTo(-1)}},
		{[]api.Run{days(0, most-1)}, []api.Run{upTo(-1), from(most)}},
		{[]api.Run{days(least, 0)}, []api.Run{from(1)}},
		{[]api.Run{days(least+1, 0)}, []api.Run{upTo(least), from(1)}},
		{[]api.Run{upTo(least), from(most)}, []api.Run{days(least+1, most-1)}},
		{[]api.Run{days(least, least), days(most, most)}, []api.Run{days(least+1, most-1)}},
		{[]api.Run{days(least, -1), days(1, most)}, []api.Run{days(0, 0)}},
		{[]api.Run{upTo(least + 1)}, []api.Run{from(least + 2)}},
	} {
		if got, err := Complement(x.l); !slices.Equal(got, x.want) || err != api.OK {
			t.Errorf("Complement(%v) = %v, %d; want %v", x.l, got, err, x.want)
		}
	}
}

// P10.3: results of MaxRuns runs, and ErrLimit for those of one more.
func TestLimitOfPairs(t *testing.T) {
	const whole = api.MaxRuns
	half := whole / 2
	full := spaced(whole)
	behind := int64(4 * whole)
	for _, x := range []struct {
		name string
		got  func() ([]api.Run, api.Errno)
		runs int // 0: too many
	}{
		{"Union with none", func() ([]api.Run, api.Errno) { return Union(full, nil) }, whole},
		{"Union with itself", func() ([]api.Run, api.Errno) { return Union(full, full) }, whole},
		{"Union of both halves", func() ([]api.Run, api.Errno) { return Union(full[half:], full[:half]) }, whole},
		{"Union with one that touches", func() ([]api.Run, api.Errno) { return Union(full, []api.Run{days(2, 2)}) }, whole},
		{"Union with one that fills", func() ([]api.Run, api.Errno) { return Union(full, []api.Run{days(2, 3)}) }, whole - 1},
		{"Union with one more", func() ([]api.Run, api.Errno) { return Union(full, []api.Run{days(behind, behind)}) }, 0},
		{"Union of one more with many", func() ([]api.Run, api.Errno) { return Union([]api.Run{days(-5, -4)}, full) }, 0},
		{"Union with what fills all", func() ([]api.Run, api.Errno) { return Union(full, shifted(full, 2)) }, 1},
		{"Common with itself", func() ([]api.Run, api.Errno) { return Common(full, full) }, whole},
		{"Common with all", func() ([]api.Run, api.Errno) { return Common(full, []api.Run{all}) }, whole},
		{"Common with one day on", func() ([]api.Run, api.Errno) { return Common(full, shifted(full, 1)) }, whole},
		{"Common of runs that overlap on both sides", func() ([]api.Run, api.Errno) { return Common(wide(half, 0), wide(half+1, -3)) }, whole},
		{"Common of runs that overlap on both sides, and one more", func() ([]api.Run, api.Errno) { return Common(wide(half+1, 0), wide(half+1, -3)) }, 0},
		{"Without none", func() ([]api.Run, api.Errno) { return Without(full, nil) }, whole},
		{"Without itself", func() ([]api.Run, api.Errno) { return Without(full, full) }, -1},
		{"Without what cuts the first one", func() ([]api.Run, api.Errno) { return Without(cuttable(full), []api.Run{days(-8, -7)}) }, 0},
		{"Without what is beside", func() ([]api.Run, api.Errno) { return Without(full, []api.Run{days(2, 3)}) }, whole},
		{"One run without many", func() ([]api.Run, api.Errno) { return Without([]api.Run{days(-1, behind)}, full[1:]) }, whole},
		{"One run without too many", func() ([]api.Run, api.Errno) { return Without([]api.Run{days(-1, behind)}, full) }, 0},
		{"One run without many, of which the first one is at its end", func() ([]api.Run, api.Errno) { return Without([]api.Run{days(0, behind)}, full) }, whole},
		{"Complement of many", func() ([]api.Run, api.Errno) { return Complement(full[1:]) }, whole},
		{"Complement of too many", func() ([]api.Run, api.Errno) { return Complement(full) }, 0},
		{"Complement of many from -infinity on", func() ([]api.Run, api.Errno) { return Complement(append([]api.Run{upTo(0)}, full[1:]...)) }, whole},
		{"Complement of many from the first day on", func() ([]api.Run, api.Errno) { return Complement(append([]api.Run{days(least, 0)}, full[1:]...)) }, whole},
		{"Complement of many up to infinity", func() ([]api.Run, api.Errno) { return Complement(append(full[1:], from(behind))) }, whole},
		{"Complement of many up to the last day", func() ([]api.Run, api.Errno) { return Complement(append(full[1:], days(behind, most))) }, whole},
	} {
		got, err := x.got()
		switch {
		case x.runs == 0 && (len(got) != 0 || err != api.ErrLimit):
			t.Errorf("%s: %d runs, %d; want ErrLimit", x.name, len(got), err)
		case x.runs != 0 && (len(got) != max(x.runs, 0) || err != api.OK || cap(got) != len(got)):
			t.Errorf("%s: %d runs, %d; want %d", x.name, len(got), err, x.runs)
		}
	}
}

// shifted returns runs some days on.
func shifted(l []api.Run, k int64) []api.Run {
	list := make([]api.Run, len(l))
	for i, r := range l {
		list[i] = days(r.Lo.Day+k, r.Hi.Day+k)
	}
	return list
}

// wide returns n runs of five days, six days apart, some days on.
func wide(n int, k int64) []api.Run {
	list := make([]api.Run, n)
	for i := range list {
		list[i] = days(int64(6*i)+k, int64(6*i)+k+4)
	}
	return list
}

// cuttable returns a set whose first run is a longer one, that can be cut.
func cuttable(l []api.Run) []api.Run {
	return append([]api.Run{days(-9, 1)}, l[1:]...)
}

// P10.3, P10.4: the error of Check for a, then that for b; both ahead of the limit of the result.
func TestErrorsOfTwoSets(t *testing.T) {
	within := func(a, b []api.Run) ([]api.Run, api.Errno) {
		is, err := Within(a, b)
		if is {
			return []api.Run{all}, err
		}
		return nil, err
	}
	calls := append([]operation{{name: "Within", call: within}}, operations...)
	full := spaced(api.MaxRuns)
	for _, o := range calls {
		for errA, setsA := range wrongSets() {
			for _, a := range setsA {
				for _, b := range [][]api.Run{nil, {days(1, 2)}, {all}, full} {
					if got, err := o.call(a, b); len(got) != 0 || err != errA {
						t.Fatalf("%s(%.3v; %.3v) = %.3v, %d; want %d", o.name, a, b, got, err, errA)
					}
					if got, err := o.call(b, a); len(got) != 0 || err != errA {
						t.Fatalf("%s(%.3v; %.3v) = %.3v, %d; want %d", o.name, b, a, got, err, errA)
					}
				}
			}
		}
	}
}

// P10.3, P10.4: if both are wrong, the error is that of a.
func TestErrorOfFirstSet(t *testing.T) {
	for errA, setsA := range wrongSets() {
		for errB, setsB := range wrongSets() {
			a, b := setsA[0], setsB[0]
			for _, o := range operations {
				if got, err := o.call(a, b); len(got) != 0 || err != errA {
					t.Errorf("%s of errors %d and %d = %v, %d", o.name, errA, errB, got, err)
				}
			}
			if got, err := Within(a, b); got || err != errA {
				t.Errorf("Within of errors %d and %d = %t, %d", errA, errB, got, err)
			}
		}
	}
}

// P10.4: the examples of the chapter, and ends at infinity.
func TestWithinExamples(t *testing.T) {
	for _, x := range []struct {
		a, b []api.Run
		want bool
	}{
		{nil, nil, true},
		{nil, []api.Run{days(1, 2)}, true},
		{[]api.Run{days(1, 2)}, nil, false},
		{[]api.Run{days(2, 3)}, []api.Run{days(1, 5), days(9, 9)}, true},
		{[]api.Run{days(9, 9)}, []api.Run{days(1, 5), days(9, 9)}, true},
		{[]api.Run{days(1, 1), days(4, 5), days(9, 9)}, []api.Run{days(1, 5), days(9, 9)}, true},
		{[]api.Run{days(2, 3), days(7, 7)}, []api.Run{days(1, 5), days(9, 9)}, false},
		{[]api.Run{days(2, 9)}, []api.Run{days(1, 5), days(7, 9)}, false},
		{[]api.Run{days(0, 0), days(2, 3)}, []api.Run{days(1, 5)}, false},
		{[]api.Run{from(0)}, []api.Run{days(0, most)}, false},
		{[]api.Run{days(0, most)}, []api.Run{from(0)}, true},
		{[]api.Run{upTo(0)}, []api.Run{days(least, 0)}, false},
		{[]api.Run{days(least, 0)}, []api.Run{upTo(0)}, true},
		{[]api.Run{all}, []api.Run{all}, true},
		{[]api.Run{upTo(least), from(most)}, []api.Run{all}, true},
		{spaced(api.MaxRuns), []api.Run{all}, true},
		{spaced(api.MaxRuns), spaced(api.MaxRuns), true},
		{spaced(api.MaxRuns), spaced(api.MaxRuns - 1), false},
		{spaced(api.MaxRuns - 1), spaced(api.MaxRuns), true},
	} {
		if got, err := Within(x.a, x.b); got != x.want || err != api.OK {
			t.Errorf("Within(%.3v; %.3v) = %t, %d", x.a, x.b, got, err)
		}
	}
}

// P10.7: Union and Common are commutative; a set is within b exactly if its Union with b is b, and then Without leaves nothing.
func TestConsequencesOfPairs(t *testing.T) {
	sets := randomSets(150, rand.New(rand.NewSource(16)))
	for _, a := range sets {
		for _, b := range sets {
			for _, o := range operations[:2] {
				one, _ := o.call(a, b)
				other, _ := o.call(b, a)
				if !Same(one, other) {
					t.Fatalf("%s(%v; %v) = %v, and %v the other way round", o.name, a, b, one, other)
				}
			}
			is, _ := Within(a, b)
			union, _ := Union(a, b)
			without, err := Without(a, b)
			if is != Same(union, b) || err != api.OK || is && len(without) != 0 {
				t.Fatalf("Within(%v; %v) = %t, Union %v, Without %v", a, b, is, union, without)
			}
		}
	}
}

// P10.7: a day is in a set or in its complement; the complement of the complement is the set, if no run of it ends or begins at an end of the int64 days.
func TestConsequencesOfComplement(t *testing.T) {
	sets := randomSets(2000, rand.New(rand.NewSource(17)))
	for _, line := range lines() {
		sets = append(sets, setsOn(line, 0)...)
	}
	for _, l := range sets {
		complement, err := Complement(l)
		if err != api.OK {
			t.Fatalf("Complement(%v): %d", l, err)
		}
		for _, n := range []int64{least, least + 1, -1 << 40, -3, -2, -1, 0, 1, 2, 3, 1 << 31, most - 1, most} {
			if Has(l, n) == Has(complement, n) {
				t.Fatalf("the day %d, %v and its complement %v", n, l, complement)
			}
		}
		atEnd := slices.ContainsFunc(l, func(r api.Run) bool {
			return slices.ContainsFunc([]api.End{r.Lo, r.Hi}, func(x api.End) bool { return x == day(least) || x == day(most) })
		})
		again, err := Complement(complement)
		if !atEnd && (!Same(again, l) || err != api.OK) {
			t.Fatalf("Complement(Complement(%v)) = %v, %d", l, again, err)
		}
	}
}

// P10.7: Of does not depend on the order of the runs.
func TestOfAnyOrder(t *testing.T) {
	random := rand.New(rand.NewSource(18))
	for range 300 {
		l := make([]api.Run, random.Intn(9))
		for i := range l {
			l[i] = randomRun(random)
		}
		want, _ := Of(l)
		for range 20 {
			random.Shuffle(len(l), func(i, j int) { l[i], l[j] = l[j], l[i] })
			if got, err := Of(l); !Same(got, want) || err != api.OK {
				t.Fatalf("Of(%v) = %v, %d; want %v", l, got, err, want)
			}
		}
	}
}

// P10.1, P10.3: what lies in memory behind the runs of an argument stays as it is, and is no part of a result.
func TestMemoryBehindArguments(t *testing.T) {
	guard := days(77, 78)
	guarded := func(l ...api.Run) []api.Run {
		return append(l, slices.Repeat([]api.Run{guard}, 8)...)[:len(l)]
	}
	for name, call := range map[string]func(a, b []api.Run) ([]api.Run, api.Errno){
		"Union":      Union,
		"Common":     Common,
		"Without":    Without,
		"Complement": func(a, b []api.Run) ([]api.Run, api.Errno) { return Complement(a) },
		"Of":         func(a, b []api.Run) ([]api.Run, api.Errno) { return Of(a) },
	} {
		for _, b := range [][]api.Run{guarded(), guarded(days(3, 4)), guarded(days(1, 5), days(9, 9))} {
			a := guarded(days(1, 5), days(8, 9))
			result, err := call(a, b)
			if err != api.OK || !isNew(result, a, b) {
				t.Errorf("%s(%v; %v) = %v, %d", name, a, b, result, err)
			}
			for _, l := range [][]api.Run{a, b} {
				for _, r := range l[len(l):cap(l)][:8] {
					if r != guard {
						t.Errorf("%s(%v; %v) writes behind an argument", name, a, b)
					}
				}
			}
		}
	}
}
