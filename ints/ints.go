// Package ints reckons with int64 numbers exactly: what does not fit is an error. It is layer 1: see shared/doc/01-ints.md.
package ints

import (
	"math"
	"math/bits"

	"circa/api"
)

// Add returns the sum of two numbers.
func Add(a, b int64) (sum int64, err api.Errno) {
	defer func() {
		// A sum that fits is below a exactly if b is negative; one that wrapped around is on the other side.
		if (sum < a) != (b < 0) {
			sum, err = 0, api.ErrOverflow
		}
	}()
	return a + b, api.OK
}

// Sub returns the difference of two numbers.
func Sub(a, b int64) (difference int64, err api.Errno) {
	defer func() {
		if (difference < a) != (b > 0) {
			difference, err = 0, api.ErrOverflow
		}
	}()
	return a - b, api.OK
}

// Mul returns the product of two numbers.
func Mul(a, b int64) (int64, api.Errno) {
	var words [2]uint64 // the high word first
	words[0], words[1] = bits.Mul64(magnitude(a), magnitude(b))
	if words[0] != 0 {
		return 0, api.ErrOverflow
	}
	return signed((a < 0) != (b < 0), words[1])
}

// Div returns the quotient of two numbers, rounded down.
func Div(a, b int64) (int64, api.Errno) {
	if b == 0 {
		return 0, api.ErrArg
	}
	if a == math.MinInt64 && b == -1 {
		return 0, api.ErrOverflow
	}
	quotient := a / b
	if roundedUp(a%b, b) {
		quotient--
	}
	return quotient, api.OK
}

// Mod returns what Div leaves: it has the sign of b, or is 0.
func Mod(a, b int64) (int64, api.Errno) {
	if b == 0 {
		return 0, api.ErrArg
	}
	rest := a % b
	if roundedUp(rest, b) {
		rest += b
	}
	return rest, api.OK
}

// roundedUp reports whether Go's quotient, which is rounded toward zero, was rounded up. Go's remainder then has not the sign of the divisor.
func roundedUp(remainder, divisor int64) bool {
	return remainder != 0 && (remainder < 0) != (divisor < 0)
}

// Pow10 returns 10 to the power n.
func Pow10(n int) (int64, api.Errno) {
	const most = 18 // 10^19 is no int64
	if n < 0 {
		return 0, api.ErrArg
	}
	if n > most {
		return 0, api.ErrOverflow
	}
	power := int64(1)
	for range n {
		power *= 10
	}
	return power, api.OK
}

// Gcd returns the greatest number that divides both numbers, 0 for two zeros.
func Gcd(a, b int64) (int64, api.Errno) {
	x, y := magnitude(a), magnitude(b)
	for y != 0 {
		x, y = y, x%y
	}
	return signed(false, x)
}

// magnitude returns a number without its sign. It is unsigned, because that of the least int64 is no int64.
func magnitude(n int64) uint64 {
	if n < 0 {
		return -uint64(n)
	}
	return uint64(n)
}

// signed returns the number that has a sign and a magnitude.
func signed(negative bool, size uint64) (int64, api.Errno) {
	if negative && size <= 1<<63 {
		return int64(-size), api.OK
	}
	if !negative && size <= math.MaxInt64 {
		return int64(size), api.OK
	}
	return 0, api.ErrOverflow
}
