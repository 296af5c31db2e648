package runsets

import (
	"cmp"
	"iter"
	"slices"

	"circa/api"
	"circa/ends"
	"circa/runs"
)

// Union returns the days that a or b has.
func Union(a, b []api.Run) ([]api.Run, api.Errno) {
	return combined(a, b, func(a, b []api.Run) []api.Run { return joined(slices.Concat(a, b)) })
}

// Common returns the days that both have.
func Common(a, b []api.Run) ([]api.Run, api.Errno) { return combined(a, b, common) }

// Without returns the days that a has, but not b.
func Without(a, b []api.Run) ([]api.Run, api.Errno) {
	return combined(a, b, func(a, b []api.Run) []api.Run { return common(a, gaps(b)) })
}

// Complement returns all days that a set does not have.
func Complement(l []api.Run) ([]api.Run, api.Errno) {
	if err := Check(l); err != api.OK {
		return nil, err
	}
	return limited(gaps(l))
}

// Within reports whether a is within b.
func Within(a, b []api.Run) (bool, api.Errno) {
	if err := checkBoth(a, b); err != api.OK {
		return false, err
	}
	return slices.Equal(common(a, b), a), api.OK
}

func checkBoth(a, b []api.Run) api.Errno { return cmp.Or(Check(a), Check(b)) }

// combined returns what a function makes of two run sets.
func combined(a, b []api.Run, combine func(a, b []api.Run) []api.Run) ([]api.Run, api.Errno) {
	if err := checkBoth(a, b); err != api.OK {
		return nil, err
	}
	return limited(combine(a, b))
}

// common returns the runs of the days that both sets have.
func common(a, b []api.Run) []api.Run {
	var list []api.Run
	for x, y := range sideBySide(a, b) {
		if both, meet := runs.Common(x, y); meet {
			list = append(list, both)
		}
	}
	return list
}

// sideBySide yields a run of each set, as both are swept: all pairs that meet are among these.
func sideBySide(a, b []api.Run) iter.Seq2[api.Run, api.Run] {
	return func(yield func(x, y api.Run) bool) {
		i, j := 0, 0
		for i < len(a) && j < len(b) && yield(a[i], b[j]) {
			// What ends first meets nothing that begins behind the other one.
			if ends.Compare(a[i].Hi, b[j].Hi) < 0 {
				i++
			} else {
				j++
			}
		}
	}
}

// gaps returns the runs of the days that a set does not have.
func gaps(l []api.Run) []api.Run {
	list := make([]api.Run, 0, len(l)+1)
	lo := api.End{Inf: -1}
	closeAt := func(hi api.End) {
		gap := api.Run{Lo: lo, Hi: hi}
		if runs.Check(gap) == api.OK {
			list = append(list, gap)
		}
	}
	for _, r := range l {
		closeAt(ahead(r))
		lo = behind(r)
	}
	closeAt(api.End{Inf: 1})
	return list
}

// ahead returns the end of what is ahead of a run: -infinity, if there is no day.
func ahead(r api.Run) api.End {
	before, err := ends.Prev(r.Lo)
	if err != api.OK {
		return api.End{Inf: -1}
	}
	return before
}

// behind returns where it begins what is behind a run: at infinity, if there is no day.
func behind(r api.Run) api.End {
	next, err := ends.Next(r.Hi)
	if err != api.OK {
		return api.End{Inf: 1}
	}
	return next
}
