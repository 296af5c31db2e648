package floats

import (
	"math"
	"math/big"
	"math/rand"
	"slices"
	"testing"

	"circa/api"
)

const most, least = math.MaxInt64, math.MinInt64

// wholes returns whole numbers, ascending: small ones, those about the powers of 2, and random ones of all sizes.
func wholes() []int64 {
	random := rand.New(rand.NewSource(3))
	list := []int64{most, most - 1, least, least + 1}
	for n := int64(-20); n <= 20; n++ {
		list = append(list, n)
	}
	for k := 5; k < 63; k++ {
		p := int64(1) << k
		for n := int64(-3); n <= 3; n++ {
			list = append(list, p+n, -p+n)
		}
		unit := max(1, p>>52) // what the float64 numbers from p on differ by
		list = append(list, p+unit, p+unit/2, p+unit/2+1, p+unit/2-1, p-unit/4, -p-unit, -p-unit/2, p+3*unit/2, p+(p-1))
		for range 10 {
			list = append(list, p+random.Int63n(p), -p-random.Int63n(p))
		}
	}
	for _, n := range []int64{511, 512, 513, 1023, 1024, 1025, 1535, 1536, 1537} { // the float64 numbers ahead of 2^63 differ by 1024
		list = append(list, most-n, least+n, least+2*n)
	}
	slices.Sort(list)
	return slices.Compact(list)
}

// halves returns numbers that are finite, with and without fractions.
func halves() []float64 {
	random := rand.New(rand.NewSource(4))
	list := slices.DeleteFunc(numbers(), func(x float64) bool { return math.IsInf(x, 0) })
	for n := -20.0; n <= 20; n++ {
		list = append(list, n, n+0.25, n+0.5, n+0.75, math.Nextafter(n, inf), math.Nextafter(n, -inf))
	}
	for range 2000 {
		list = append(list, math.Float64frombits(random.Uint64()&^(1<<62)), math.Ldexp(random.Float64()-0.5, random.Intn(70)))
	}
	return slices.DeleteFunc(list, func(x float64) bool { return x != x })
}

// rounding returns a whole number as a float64, rounded in one direction.
func rounding(n int64, mode big.RoundingMode) float64 {
	x, _ := new(big.Float).SetPrec(53).SetMode(mode).SetInt64(n).Float64()
	return x
}

// P2.3: the float64 numbers around whole ones: about 2^53, at the ends of int64, and at 0.
func TestDownUp(t *testing.T) {
	for _, x := range []struct {
		n        int64
		down, up float64
	}{
		{0, 0, 0},
		{1, 1, 1},
		{-7, -7, -7},
		{1<<53 - 1, 1<<53 - 1, 1<<53 - 1},
		{1 << 53, 1 << 53, 1 << 53},
		{1<<53 + 1, 1 << 53, 1<<53 + 2},
		{1<<53 + 2, 1<<53 + 2, 1<<53 + 2},
		{1<<53 + 3, 1<<53 + 2, 1<<53 + 4},
		{-1<<53 + 1, -1<<53 + 1, -1<<53 + 1},
		{-1 << 53, -1 << 53, -1 << 53},
		{-1<<53 - 1, -1<<53 - 2, -1 << 53},
		{-1<<53 - 3, -1<<53 - 4, -1<<53 - 2},
		{1<<54 + 1, 1 << 54, 1<<54 + 4},
		{1<<54 + 2, 1 << 54, 1<<54 + 4},
		{1<<54 + 3, 1 << 54, 1<<54 + 4},
		{most, 1<<63 - 1024, 1 << 63},
		{most - 512, 1<<63 - 1024, 1 << 63},
		{most - 1023, 1<<63 - 1024, 1<<63 - 1024},
		{most - 1024, 1<<63 - 2048, 1<<63 - 1024},
		{least, -1 << 63, -1 << 63},
		{least + 1, -1 << 63, -1<<63 + 1024},
		{least + 1024, -1<<63 + 1024, -1<<63 + 1024},
		{10_000_000_000_000_000, 1e16, 1e16},
	} {
		if got := Down(x.n); !alike(got, x.down) {
			t.Errorf("Down(%d) = %g; want %g", x.n, got, x.down)
		}
		if got := Up(x.n); !alike(got, x.up) {
			t.Errorf("Up(%d) = %g; want %g", x.n, got, x.up)
		}
		if got := Exact(x.n); got != (x.down == x.up) {
			t.Errorf("Exact(%d) = %t", x.n, got)
		}
	}
}

// P2.3: for all sizes of whole numbers, Down and Up are what numbers of any precision are rounded to.
func TestDownUpOfWholes(t *testing.T) {
	for _, n := range wholes() {
		down, up := rounding(n, big.ToNegativeInf), rounding(n, big.ToPositiveInf)
		if got := Down(n); !alike(got, down) {
			t.Errorf("Down(%d) = %g; want %g", n, got, down)
		}
		if got := Up(n); !alike(got, up) {
			t.Errorf("Up(%d) = %g; want %g", n, got, up)
		}
		if got := Exact(n); got != (down == up) {
			t.Errorf("Exact(%d) = %t", n, got)
		}
	}
}

// P2.4: the whole numbers around float64 ones, with signed zeros, at the ends of int64, and beyond.
func TestFloorCeil(t *testing.T) {
	for _, x := range []struct {
		x           float64
		floor, ceil int64
		err         api.Errno
	}{
		{2.5, 2, 3, api.OK},
		{-2.5, -3, -2, api.OK},
		{4, 4, 4, api.OK},
		{-4, -4, -4, api.OK},
		{-0.5, -1, 0, api.OK},
		{0.5, 0, 1, api.OK},
		{0, 0, 0, api.OK},
		{minus, 0, 0, api.OK},
		{math.SmallestNonzeroFloat64, 0, 1, api.OK},
		{-math.SmallestNonzeroFloat64, -1, 0, api.OK},
		{0x1p51 + 0.5, 1 << 51, 1<<51 + 1, api.OK},
		{0x1p53 - 1, 1<<53 - 1, 1<<53 - 1, api.OK},
		{0x1p53 + 2, 1<<53 + 2, 1<<53 + 2, api.OK},
		{0x1p63 - 1024, 1<<63 - 1024, 1<<63 - 1024, api.OK},
		{0x1p63, 0, 0, api.ErrOverflow},
		{-0x1p63, least, least, api.OK},
		{-0x1p63 - 2048, 0, 0, api.ErrOverflow},
		{math.MaxFloat64, 0, 0, api.ErrOverflow},
		{-math.MaxFloat64, 0, 0, api.ErrOverflow},
		{inf, 0, 0, api.ErrOverflow},
		{-inf, 0, 0, api.ErrOverflow},
		{math.NaN(), 0, 0, api.ErrArg},
	} {
		if got, err := Floor(x.x); got != x.floor || err != x.err {
			t.Errorf("Floor(%g) = %d, %d; want %d, %d", x.x, got, err, x.floor, x.err)
		}
		if got, err := Ceil(x.x); got != x.ceil || err != x.err {
			t.Errorf("Ceil(%g) = %d, %d; want %d, %d", x.x, got, err, x.ceil, x.err)
		}
	}
}

// P2.4: no NaN has a Floor or a Ceil.
func TestFloorCeilOfNaNs(t *testing.T) {
	for _, nan := range nans() {
		if got, err := Floor(nan); got != 0 || err != api.ErrArg {
			t.Errorf("Floor(%x) = %d, %d; want ErrArg", math.Float64bits(nan), got, err)
		}
		if got, err := Ceil(nan); got != 0 || err != api.ErrArg {
			t.Errorf("Ceil(%x) = %d, %d; want ErrArg", math.Float64bits(nan), got, err)
		}
	}
}

// fits returns a whole number, and the error of one that is no int64.
func fits(whole *big.Int) (int64, api.Errno) {
	if !whole.IsInt64() {
		return 0, api.ErrOverflow
	}
	return whole.Int64(), api.OK
}

// P2.4: for numbers of all sizes, Floor and Ceil are those of exact fractions.
func TestFloorCeilOfNumbers(t *testing.T) {
	for _, x := range halves() {
		exact := new(big.Rat).SetFloat64(x)
		whole, rest := new(big.Int).DivMod(exact.Num(), exact.Denom(), new(big.Int))
		want, wantErr := fits(whole)
		if got, err := Floor(x); got != want || err != wantErr {
			t.Errorf("Floor(%g) = %d, %d; want %d, %d", x, got, err, want, wantErr)
		}
		if rest.Sign() != 0 {
			whole.Add(whole, big.NewInt(1))
		}
		want, wantErr = fits(whole)
		if got, err := Ceil(x); got != want || err != wantErr {
			t.Errorf("Ceil(%g) = %d, %d; want %d, %d", x, got, err, want, wantErr)
		}
	}
}

// P2.5: comparisons that a conversion of either number would get wrong, and those with zeros, infinities and fractions.
func TestCmp(t *testing.T) {
	for _, x := range []struct {
		x    float64
		n    int64
		want int
	}{
		{7, 7, 0},
		{7, 8, -1},
		{7, 6, 1},
		{-7, -7, 0},
		{-7, 7, -1},
		{0, 0, 0},
		{minus, 0, 0},
		{minus, 1, -1},
		{minus, -1, 1},
		{0.5, 0, 1},
		{0.5, 1, -1},
		{-0.5, 0, -1},
		{-0.5, -1, 1},
		{math.SmallestNonzeroFloat64, 0, 1},
		{-math.SmallestNonzeroFloat64, 0, -1},
		{0x1p53, 1<<53 + 1, -1},
		{0x1p53, 1 << 53, 0},
		{0x1p53 + 2, 1<<53 + 1, 1},
		{-0x1p53, -1<<53 - 1, 1},
		{0x1p63, most, 1},
		{0x1p63 - 1024, most, -1},
		{0x1p63 - 1024, most - 1023, 0},
		{-0x1p63, least, 0},
		{-0x1p63, least + 1, -1},
		{-0x1p63 - 2048, least, -1},
		{math.MaxFloat64, most, 1},
		{-math.MaxFloat64, least, -1},
		{inf, most, 1},
		{inf, least, 1},
		{-inf, least, -1},
		{-inf, most, -1},
	} {
		if got, err := Cmp(x.x, x.n); got != x.want || err != api.OK {
			t.Errorf("Cmp(%g, %d) = %d, %d; want %d", x.x, x.n, got, err, x.want)
		}
	}
	for _, nan := range nans() {
		for _, n := range []int64{least, 0, 1, most} {
			if got, err := Cmp(nan, n); got != 0 || err != api.ErrArg {
				t.Errorf("Cmp(%x, %d) = %d, %d; want ErrArg", math.Float64bits(nan), n, got, err)
			}
		}
	}
}

// P2.5: of numbers of all sizes, beside each other and far apart, Cmp says what exact ones do.
func TestCmpOfNumbers(t *testing.T) {
	try := func(x float64, n int64) {
		t.Helper()
		want := new(big.Float).SetFloat64(x).Cmp(new(big.Float).SetPrec(64).SetInt64(n))
		if got, err := Cmp(x, n); got != want || err != api.OK {
			t.Errorf("Cmp(%g, %d) = %d, %d; want %d", x, n, got, err, want)
		}
	}
	for _, n := range wholes() {
		x := float64(n)
		for _, y := range []float64{x, math.Nextafter(x, inf), math.Nextafter(x, -inf), x + 0.5, x - 0.5} {
			try(y, n)
		}
		for _, y := range numbers() {
			try(y, n)
		}
	}
}

// P2.6: Down(n) is Up(n) or the number ahead of it, and n is exact where its Floor is n; a greater n has no lesser Down and Up.
func TestDownUpNeighbours(t *testing.T) {
	lastDown, lastUp := -inf, -inf
	for _, n := range wholes() {
		down, up := Down(n), Up(n)
		if ahead, err := Prev(up); !alike(down, up) && !alike(down, ahead) || down > up || err != api.OK {
			t.Errorf("%d: %g is neither %g nor the number ahead of it, %g, %d", n, down, up, ahead, err)
		}
		if floor, err := Floor(down); (floor == n) != Exact(n) || err != api.OK {
			t.Errorf("%d: Floor(%g) = %d, %d, Exact is %t", n, down, floor, err, Exact(n))
		}
		if below, err := Cmp(down, n); below > 0 || err != api.OK {
			t.Errorf("%d: Down is %g", n, down)
		}
		if above, err := Cmp(up, n); above < 0 || err != api.OK {
			t.Errorf("%d: Up is %g", n, up)
		}
		if Order(lastDown, down) > 0 || Order(lastUp, up) > 0 {
			t.Errorf("%d: %g and %g stand ahead of %g and %g", n, down, up, lastDown, lastUp)
		}
		lastDown, lastUp = down, up
	}
}
