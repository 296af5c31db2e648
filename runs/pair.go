package runs

import (
	"cmp"

	"circa/api"
)

// pair is two values, one for each end of a run.
type pair[T any] struct{ lo, hi T }

func endsOf(r api.Run) pair[api.End] { return pair[api.End]{lo: r.Lo, hi: r.Hi} }

func runOf(p pair[api.End]) api.Run { return api.Run{Lo: p.lo, Hi: p.hi} }

// each returns what a function makes of both values; with an error, the zero pair.
func each[T, U any](p pair[T], f func(T) (U, api.Errno)) (pair[U], api.Errno) {
	lo, loErr := f(p.lo)
	hi, hiErr := f(p.hi)
	if err := foremost(loErr, hiErr); err != api.OK {
		return pair[U]{}, err
	}
	return pair[U]{lo: lo, hi: hi}, api.OK
}

// foremost returns the error of two ends: the form of both is looked at ahead of all else.
func foremost(lo, hi api.Errno) api.Errno {
	if hi == api.ErrForm {
		return hi
	}
	return cmp.Or(lo, hi)
}
