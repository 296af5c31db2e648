package floats

import (
	"cmp"
	"math"

	"circa/api"
)

// Down returns the greatest float64 that is at most n.
func Down(n int64) float64 {
	return end(n, 1, Prev)
}

// Up returns the least float64 that is at least n.
func Up(n int64) float64 {
	return end(n, -1, Next)
}

// end returns the float64 that is nearest to n, or, if that is on the wrong side of n (1: above it), the one to which a step leads from there.
func end(n int64, wrong int, step func(float64) (float64, api.Errno)) float64 {
	x := float64(n)
	side, _ := Cmp(x, n) // x is not NaN.
	switch side {
	case wrong: // No float64 is between the nearest one and n, so that one step is enough.
		x, _ = step(x)
		fallthrough
	default:
		return x
	}
}

// Exact reports whether a float64 is n.
func Exact(n int64) bool {
	return Down(n) == Up(n)
}

// Floor returns the greatest whole number that is at most x: ErrArg for NaN, ErrOverflow if it is no int64.
func Floor(x float64) (int64, api.Errno) {
	return rounded(x, math.Floor)
}

// Ceil returns the least whole number that is at least x: ErrArg for NaN, ErrOverflow if it is no int64.
func Ceil(x float64) (int64, api.Errno) {
	return rounded(x, math.Ceil)
}

// rounded returns the whole number that x is rounded to.
func rounded(x float64, round func(float64) float64) (int64, api.Errno) {
	const least, beyond = -1 << 63, 1 << 63 // The greatest int64 is no float64, but the number behind it is one.
	if math.IsNaN(x) {
		return 0, api.ErrArg
	}
	whole := round(x)
	if whole < least || whole >= beyond {
		return 0, api.ErrOverflow
	}
	return int64(whole), api.OK
}

// Cmp compares x with n as exact numbers: -1, 0 or 1 as x is below n, equal to it, or above; ErrArg for NaN.
func Cmp(x float64, n int64) (int, api.Errno) {
	floor, err := Floor(x)
	switch {
	case err == api.ErrArg:
		return 0, err
	case err == api.ErrOverflow: // x is below all int64 numbers, or above all of them.
		return cmp.Compare(x, 0), api.OK
	case floor == n: // x may be above its floor, which is a float64, because that of no float64 needs more digits.
		return cmp.Compare(x, float64(floor)), api.OK
	default:
		return cmp.Compare(floor, n), api.OK
	}
}
