package floats

import (
	"cmp"
	"math"
	"math/rand"
	"slices"
	"testing"

	"circa/api"
)

var (
	inf   = math.Inf(1)
	minus = math.Copysign(0, -1) // -0
)

// nans returns NaNs of both signs, quiet and signalling ones, with the least and the greatest bits.
func nans() []float64 {
	var list []float64
	for _, bits := range []uint64{0x7FF8_0000_0000_0001, 0x7FF0_0000_0000_0001, 0x7FFF_FFFF_FFFF_FFFF, 0x7FF8_0000_0000_0000} {
		list = append(list, math.Float64frombits(bits), math.Float64frombits(bits|1<<63))
	}
	return list
}

// numbers returns float64 numbers without NaN, each once, in the total order.
func numbers() []float64 {
	const fractions = 1<<52 - 1
	var ups []float64 // those above 0
	for _, exponent := range []uint64{0, 1, 2, 512, 1021, 1022, 1023, 1024, 1074, 1075, 1076, 1077, 1085, 1086, 1087, 1536, 2046} {
		for _, fraction := range []uint64{0, 1, 2, 3, 1 << 51, fractions - 1, fractions} {
			if bits := exponent<<52 | fraction; bits != 0 {
				ups = append(ups, math.Float64frombits(bits))
			}
		}
	}
	ups = append(ups, inf)
	var list []float64
	for _, x := range slices.Backward(ups) {
		list = append(list, -x)
	}
	return append(append(list, minus, 0), ups...)
}

// alike reports whether two numbers are the same: the same bits, or both NaN.
func alike(a, b float64) bool {
	return math.Float64bits(a) == math.Float64bits(b) || a != a && b != b
}

// P2.1: the example of the chapter, and numbers of all kinds.
func TestOrder(t *testing.T) {
	nan := math.NaN()
	for _, x := range []struct {
		a, b float64
		want int
	}{
		{1, 1, 0},
		{1, 2, -1},
		{2, 1, 1},
		{-1, -2, 1},
		{-2, -1, -1},
		{-1, 1, -1},
		{minus, 0, -1},
		{0, minus, 1},
		{0, 0, 0},
		{minus, minus, 0},
		{minus, -math.SmallestNonzeroFloat64, 1},
		{0, math.SmallestNonzeroFloat64, -1},
		{inf, math.MaxFloat64, 1},
		{inf, inf, 0},
		{-inf, -math.MaxFloat64, -1},
		{-inf, -inf, 0},
		{-inf, inf, -1},
		{nan, inf, 1},
		{inf, nan, -1},
		{nan, -inf, 1},
		{-inf, nan, -1},
		{nan, 0, 1},
	} {
		if got := Order(x.a, x.b); got != x.want {
			t.Errorf("Order(%g, %g) = %d; want %d", x.a, x.b, got, x.want)
		}
	}
}

// P2.1, P2.6: Order is the total order: of each pair of numbers it says which stands ahead in the list of all of them.
func TestOrderIsTotal(t *testing.T) {
	list := numbers()
	for i, a := range list {
		for j, b := range list {
			if got := Order(a, b); got != cmp.Compare(i, j) {
				t.Fatalf("Order(%g, %g) = %d; want %d", a, b, got, cmp.Compare(i, j))
			}
		}
	}
}

// P2.1: every NaN is alike each other one, and behind all numbers, whatever its bits and its sign.
func TestOrderOfNaNs(t *testing.T) {
	for _, nan := range nans() {
		for _, other := range nans() {
			if got := Order(nan, other); got != 0 {
				t.Errorf("Order(%x, %x) = %d; want 0", math.Float64bits(nan), math.Float64bits(other), got)
			}
		}
		for _, x := range numbers() {
			if got, back := Order(nan, x), Order(x, nan); got != 1 || back != -1 {
				t.Errorf("Order(%x, %g) = %d, and %d the other way round", math.Float64bits(nan), x, got, back)
			}
		}
	}
}

// P2.6: 0 says that both numbers are alike, and -1 and 1 that they are not; a sort by Order has no choice.
func TestOrderOfRandomBits(t *testing.T) {
	random := rand.New(rand.NewSource(1))
	var list []float64
	for range 2000 {
		list = append(list, math.Float64frombits(random.Uint64()))
	}
	list = append(append(list, numbers()...), nans()...)
	slices.SortFunc(list, Order)
	for i, b := range list[1:] {
		a := list[i]
		if (Order(a, b) == 0) != alike(a, b) || Order(a, b) != -Order(b, a) {
			t.Fatalf("Order(%g, %g) = %d, and %d the other way round", a, b, Order(a, b), Order(b, a))
		}
		if a > b || b == b && a != a {
			t.Fatalf("%g is sorted ahead of %g", a, b)
		}
	}
}

// P2.2: next numbers, with signed zeros, at the ends of all numbers, and where the exponent changes.
func TestNext(t *testing.T) {
	const least = math.SmallestNonzeroFloat64
	for _, x := range []struct{ x, next float64 }{
		{1, 1 + 0x1p-52},
		{-1, -1 + 0x1p-53},
		{1 - 0x1p-53, 1},
		{-1 - 0x1p-52, -1},
		{0x1p53, 0x1p53 + 2},
		{0x1p53 - 1, 0x1p53},
		{minus, 0},
		{0, least},
		{-least, minus},
		{least, 2 * least},
		{0x1p-1022 - least, 0x1p-1022},
		{math.MaxFloat64, inf},
		{-inf, -math.MaxFloat64},
	} {
		if got, err := Next(x.x); !alike(got, x.next) || err != api.OK {
			t.Errorf("Next(%g) = %g, %d; want %g", x.x, got, err, x.next)
		}
		if got, err := Prev(x.next); !alike(got, x.x) || err != api.OK {
			t.Errorf("Prev(%g) = %g, %d; want %g", x.next, got, err, x.x)
		}
	}
}

// P2.2: nothing follows Inf, nothing is ahead of -Inf, and NaN has neither.
func TestNextOfNone(t *testing.T) {
	if got, err := Next(inf); !alike(got, 0) || err != api.ErrNone {
		t.Errorf("Next(Inf) = %g, %d; want ErrNone", got, err)
	}
	if got, err := Prev(-inf); !alike(got, 0) || err != api.ErrNone {
		t.Errorf("Prev(-Inf) = %g, %d; want ErrNone", got, err)
	}
	for _, nan := range nans() {
		if got, err := Next(nan); !alike(got, 0) || err != api.ErrNone {
			t.Errorf("Next(%x) = %g, %d; want ErrNone", math.Float64bits(nan), got, err)
		}
		if got, err := Prev(nan); !alike(got, 0) || err != api.ErrNone {
			t.Errorf("Prev(%x) = %g, %d; want ErrNone", math.Float64bits(nan), got, err)
		}
	}
}

// P2.2, P2.6: Next is what the library has behind a number, but for -0 and +0, which it does not tell apart; Prev inverts it; Order has nothing between both.
func TestNextOfNumbers(t *testing.T) {
	random := rand.New(rand.NewSource(2))
	list := numbers()
	for range 2000 {
		list = append(list, math.Float64frombits(random.Uint64()))
	}
	for _, x := range list {
		if x != x || x == inf {
			continue
		}
		want := math.Nextafter(x, inf)
		if alike(x, minus) {
			want = 0
		}
		next, err := Next(x)
		if !alike(next, want) || err != api.OK || Order(x, next) != -1 {
			t.Fatalf("Next(%g) = %g, %d; want %g", x, next, err, want)
		}
		if back, err := Prev(next); !alike(back, x) || err != api.OK {
			t.Fatalf("Prev(%g) = %g, %d; want %g", next, back, err, x)
		}
	}
}
