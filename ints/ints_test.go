package ints

import (
	"math"
	"math/big"
	"testing"

	"circa/api"
)

type operation = func(a, b int64) (int64, api.Errno)

type example struct {
	name string
	f    operation
	a, b int64
	want int64
	err  api.Errno
}

func tryExamples(t *testing.T, examples []example) {
	t.Helper()
	for _, x := range examples {
		if got, err := x.f(x.a, x.b); got != x.want || err != x.err {
			t.Errorf("%s(%d, %d) = %d, %d; want %d, %d", x.name, x.a, x.b, got, err, x.want, x.err)
		}
	}
}

// edges returns small numbers, and those around the powers of 2 and of 10, and around the root of the greatest int64.
func edges() []int64 {
	const root = 3037000499
	list := []int64{math.MaxInt64, math.MaxInt64 - 1, math.MinInt64, math.MinInt64 + 1, root, root + 1, -root, -root - 1}
	for n := int64(-20); n <= 20; n++ {
		list = append(list, n)
	}
	for k := 5; k < 63; k++ {
		p := int64(1) << k
		list = append(list, p-1, p, p+1, -p-1, -p, -p+1)
	}
	for p := int64(100); p <= math.MaxInt64/10; p *= 10 {
		list = append(list, p-1, p, p+1, -p-1, -p, -p+1)
	}
	return list
}

// tryAgainst compares an operation with the same one on numbers of any size; exact returns nil where there is no result at all.
func tryAgainst(t *testing.T, name string, f operation, exact func(a, b *big.Int) *big.Int) {
	t.Helper()
	list := edges()
	for _, a := range list {
		for _, b := range list {
			var want int64
			wantErr := api.OK
			if x := exact(big.NewInt(a), big.NewInt(b)); x == nil {
				wantErr = api.ErrArg
			} else if !x.IsInt64() {
				wantErr = api.ErrOverflow
			} else {
				want = x.Int64()
			}
			if got, err := f(a, b); got != want || err != wantErr {
				t.Fatalf("%s(%d, %d) = %d, %d; want %d, %d", name, a, b, got, err, want, wantErr)
			}
		}
	}
}

// floor returns the quotient rounded down, and what it leaves; nil if b is 0.
func floor(a, b *big.Int) (quotient, rest *big.Int) {
	if b.Sign() == 0 {
		return nil, nil
	}
	quotient, rest = new(big.Int).QuoRem(a, b, new(big.Int))
	if rest.Sign()*b.Sign() < 0 {
		quotient.Sub(quotient, big.NewInt(1))
		rest.Add(rest, b)
	}
	return quotient, rest
}

// P1.1: sums, differences and products, and what is no int64.
func TestAddSubMul(t *testing.T) {
	const most, least = math.MaxInt64, math.MinInt64
	tryExamples(t, []example{
		{"Add", Add, 2, 3, 5, api.OK},
		{"Add", Add, -2, -3, -5, api.OK},
		{"Add", Add, 0, 0, 0, api.OK},
		{"Add", Add, most, 0, most, api.OK},
		{"Add", Add, most, 1, 0, api.ErrOverflow},
		{"Add", Add, 1, most, 0, api.ErrOverflow},
		{"Add", Add, most, most, 0, api.ErrOverflow},
		{"Add", Add, least, most, -1, api.OK},
		{"Add", Add, least, -1, 0, api.ErrOverflow},
		{"Add", Add, least, least, 0, api.ErrOverflow},
		{"Sub", Sub, 2, 3, -1, api.OK},
		{"Sub", Sub, 3, -2, 5, api.OK},
		{"Sub", Sub, least, 0, least, api.OK},
		{"Sub", Sub, least, 1, 0, api.ErrOverflow},
		{"Sub", Sub, 0, least, 0, api.ErrOverflow},
		{"Sub", Sub, -1, least, most, api.OK},
		{"Sub", Sub, least, least, 0, api.OK},
		{"Sub", Sub, most, -1, 0, api.ErrOverflow},
		{"Mul", Mul, 6, 7, 42, api.OK},
		{"Mul", Mul, -6, 7, -42, api.OK},
		{"Mul", Mul, -6, -7, 42, api.OK},
		{"Mul", Mul, 0, least, 0, api.OK},
		{"Mul", Mul, 1 << 32, 1 << 31, 0, api.ErrOverflow},
		{"Mul", Mul, -1 << 32, 1 << 31, least, api.OK},
		{"Mul", Mul, 1 << 32, 1 << 32, 0, api.ErrOverflow},
		{"Mul", Mul, least, 1, least, api.OK},
		{"Mul", Mul, least, -1, 0, api.ErrOverflow},
		{"Mul", Mul, least, least, 0, api.ErrOverflow},
		{"Mul", Mul, 3, -3074457345618258603, 0, api.ErrOverflow}, // one below the least int64
		{"Mul", Mul, 7, 1317624576693539401, most, api.OK},
		{"Mul", Mul, 3, 6148914691236517205, 0, api.ErrOverflow}, // all of the low word
	})
	tryAgainst(t, "Add", Add, func(a, b *big.Int) *big.Int { return new(big.Int).Add(a, b) })
	tryAgainst(t, "Sub", Sub, func(a, b *big.Int) *big.Int { return new(big.Int).Sub(a, b) })
	tryAgainst(t, "Mul", Mul, func(a, b *big.Int) *big.Int { return new(big.Int).Mul(a, b) })
}

// P1.2: quotients are rounded down, and the remainder has the sign of the divisor.
func TestDivMod(t *testing.T) {
	const most, least = math.MaxInt64, math.MinInt64
	tryExamples(t, []example{
		{"Div", Div, 7, 2, 3, api.OK},
		{"Div", Div, -7, 2, -4, api.OK},
		{"Div", Div, 7, -2, -4, api.OK},
		{"Div", Div, -7, -2, 3, api.OK},
		{"Div", Div, -8, 2, -4, api.OK},
		{"Div", Div, 8, -2, -4, api.OK},
		{"Div", Div, 0, -5, 0, api.OK},
		{"Div", Div, 1, 0, 0, api.ErrArg},
		{"Div", Div, 0, 0, 0, api.ErrArg},
		{"Div", Div, least, 0, 0, api.ErrArg},
		{"Div", Div, least, -1, 0, api.ErrOverflow},
		{"Div", Div, least + 1, -1, most, api.OK},
		{"Div", Div, least, 1, least, api.OK},
		{"Div", Div, -1, most, -1, api.OK},
		{"Mod", Mod, 7, 2, 1, api.OK},
		{"Mod", Mod, -7, 2, 1, api.OK},
		{"Mod", Mod, 7, -2, -1, api.OK},
		{"Mod", Mod, -7, -2, -1, api.OK},
		{"Mod", Mod, -8, 2, 0, api.OK},
		{"Mod", Mod, 1, 0, 0, api.ErrArg},
		{"Mod", Mod, least, 0, 0, api.ErrArg},
		{"Mod", Mod, least, -1, 0, api.OK},
		{"Mod", Mod, most, least, -1, api.OK},
	})
	tryAgainst(t, "Div", Div, func(a, b *big.Int) *big.Int {
		quotient, _ := floor(a, b)
		return quotient
	})
	tryAgainst(t, "Mod", Mod, func(a, b *big.Int) *big.Int {
		_, rest := floor(a, b)
		return rest
	})
}

// P1.3: the powers from 10^0 to 10^18, and none beside them.
func TestPow10(t *testing.T) {
	want := big.NewInt(1)
	for n := 0; n <= 18; n++ {
		if got, err := Pow10(n); got != want.Int64() || err != api.OK {
			t.Errorf("Pow10(%d) = %d, %d; want %d", n, got, err, want)
		}
		want.Mul(want, big.NewInt(10))
	}
	for _, n := range []int{-1, -18, -19, math.MinInt} {
		if got, err := Pow10(n); got != 0 || err != api.ErrArg {
			t.Errorf("Pow10(%d) = %d, %d; want ErrArg", n, got, err)
		}
	}
	for _, n := range []int{19, 20, 64, math.MaxInt} {
		if got, err := Pow10(n); got != 0 || err != api.ErrOverflow {
			t.Errorf("Pow10(%d) = %d, %d; want ErrOverflow", n, got, err)
		}
	}
}

// P1.4: the greatest common divisor, which is never negative.
func TestGcd(t *testing.T) {
	const most, least = math.MaxInt64, math.MinInt64
	tryExamples(t, []example{
		{"Gcd", Gcd, 12, 18, 6, api.OK},
		{"Gcd", Gcd, -12, 18, 6, api.OK},
		{"Gcd", Gcd, 12, -18, 6, api.OK},
		{"Gcd", Gcd, -12, -18, 6, api.OK},
		{"Gcd", Gcd, 0, 0, 0, api.OK},
		{"Gcd", Gcd, 0, -7, 7, api.OK},
		{"Gcd", Gcd, 7, 0, 7, api.OK},
		{"Gcd", Gcd, 8, 9, 1, api.OK},
		{"Gcd", Gcd, least, 0, 0, api.ErrOverflow},
		{"Gcd", Gcd, 0, least, 0, api.ErrOverflow},
		{"Gcd", Gcd, least, least, 0, api.ErrOverflow},
		{"Gcd", Gcd, least, 1 << 62, 1 << 62, api.OK},
		{"Gcd", Gcd, least, most, 1, api.OK},
	})
	tryAgainst(t, "Gcd", Gcd, func(a, b *big.Int) *big.Int {
		return new(big.Int).GCD(nil, nil, new(big.Int).Abs(a), new(big.Int).Abs(b))
	})
}
