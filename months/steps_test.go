package months

import (
	"testing"

	"circa/api"
)

// step is a step of k months from a month to another one.
type step struct {
	y int64
	m int
	k int64
	z int64
	n int
}

// steps returns steps on and back, of 0 months, over the year 0, and from end to end of the calendar.
func steps() []step {
	return []step{
		{1999, 11, 3, 2000, 2},
		{2000, 1, -1, 1999, 12},
		{2000, 2, -3, 1999, 11},
		{2000, 1, 0, 2000, 1},
		{2000, 12, 0, 2000, 12},
		{2000, 1, 11, 2000, 12},
		{2000, 12, 1, 2001, 1},
		{2000, 12, -11, 2000, 1},
		{2000, 12, -12, 1999, 12},
		{2000, 1, -13, 1998, 12},
		{2000, 5, 12000, 3000, 5},
		{5, 1, -1, 4, 12},
		{-1, 12, 1, 0, 1},
		{0, 1, -1, -1, 12},
		{0, 6, -18, -2, 12},
		{-1, 1, -1, -2, 12},
		{-1, 1, 11, -1, 12},
		{-1, 1, 24, 1, 1},
		{lastYear, 12, 0, lastYear, 12},
		{lastYear, 12, -1, lastYear, 11},
		{lastYear, 1, 11, lastYear, 12},
		{lastYear, 1, -1, lastYear - 1, 12},
		{-lastYear, 1, 0, -lastYear, 1},
		{-lastYear, 1, 1, -lastYear, 2},
		{-lastYear, 12, -11, -lastYear, 1},
		{0, 1, 12*lastYear + 11, lastYear, 12},
		{0, 1, -12 * lastYear, -lastYear, 1},
		{-lastYear, 1, allMonths - 1, lastYear, 12},
		{lastYear, 12, 1 - allMonths, -lastYear, 1},
	}
}

// P5.4, P5.5: Add returns the month k on, and Between the k.
func TestAddBetween(t *testing.T) {
	for _, x := range steps() {
		if z, n, err := Add(x.y, x.m, x.k); z != x.z || n != x.n || err != api.OK {
			t.Errorf("Add(%d, %d, %d) = %d, %d, %d; want %d, %d", x.y, x.m, x.k, z, n, err, x.z, x.n)
		}
		if k, err := Between(x.y, x.m, x.z, x.n); k != x.k || err != api.OK {
			t.Errorf("Between(%d, %d, %d, %d) = %d, %d; want %d", x.y, x.m, x.z, x.n, k, err, x.k)
		}
		if k, err := Between(x.z, x.n, x.y, x.m); k != -x.k || err != api.OK {
			t.Errorf("Between(%d, %d, %d, %d) = %d, %d; want %d", x.z, x.n, x.y, x.m, k, err, -x.k)
		}
	}
}

// P5.4, P5.5: of a list of months that follow each other, any one is as many on from another one as it stands behind it.
func TestStepsOfWalks(t *testing.T) {
	ends := forward(lastYear, lastStart)[:12]
	for _, list := range [][]known{forward(0, 0)[:60], forward(-3, -1095)[:80], forward(-lastYear, -lastStart)[:40], ends} {
		for i, a := range list {
			for j, b := range list {
				k := int64(j - i)
				if z, n, err := Add(a.year, a.m, k); z != b.year || n != b.m || err != api.OK {
					t.Fatalf("Add(%d, %d, %d) = %d, %d, %d; want %d, %d", a.year, a.m, k, z, n, err, b.year, b.m)
				}
				if got, err := Between(a.year, a.m, b.year, b.m); got != k || err != api.OK {
					t.Fatalf("Between(%d, %d, %d, %d) = %d, %d; want %d", a.year, a.m, b.year, b.m, got, err, k)
				}
			}
		}
	}
}

// P5.4: steps that lead out of the calendar are ErrYear, to both ends of int64.
func TestAddBeyond(t *testing.T) {
	for _, x := range []struct {
		y int64
		m int
		k int64
	}{
		{lastYear, 12, 1}, {lastYear, 1, 12}, {-lastYear, 1, -1}, {-lastYear, 12, -12},
		{0, 1, 12*lastYear + 12}, {0, 1, -12*lastYear - 1},
		{-lastYear, 1, allMonths}, {lastYear, 12, -allMonths},
		{0, 1, most}, {0, 1, least}, {0, 2, most}, {-1, 12, least},
		{lastYear, 12, most}, {lastYear, 12, least}, {-lastYear, 1, most}, {-lastYear, 1, least},
		{lastYear, 12, most - 12*lastYear}, {-lastYear, 1, least + 12*lastYear},
		{2000, 1, most - 1}, {2000, 1, least + 1},
	} {
		if z, n, err := Add(x.y, x.m, x.k); z != 0 || n != 0 || err != api.ErrYear {
			t.Errorf("Add(%d, %d, %d) = %d, %d, %d; want ErrYear", x.y, x.m, x.k, z, n, err)
		}
	}
}

// P5.4: the month is looked at ahead of the step.
func TestErrorsOfAdd(t *testing.T) {
	for _, x := range faults() {
		for _, k := range []int64{0, 1, -1, 12, -13, most, least} {
			if z, n, err := Add(x.y, x.m, k); z != 0 || n != 0 || err != x.err {
				t.Errorf("Add(%d, %d, %d) = %d, %d, %d; want %d", x.y, x.m, k, z, n, err, x.err)
			}
		}
	}
}

// P5.5: the first month is looked at to its end ahead of the second one.
func TestErrorsOfBetween(t *testing.T) {
	for _, x := range faults() {
		for _, right := range []known{{year: 2000, m: 1}, {year: lastYear, m: 12}} {
			if k, err := Between(right.year, right.m, x.y, x.m); k != 0 || err != x.err {
				t.Errorf("Between(%d, %d, %d, %d) = %d, %d; want %d", right.year, right.m, x.y, x.m, k, err, x.err)
			}
			if k, err := Between(x.y, x.m, right.year, right.m); k != 0 || err != x.err {
				t.Errorf("Between(%d, %d, %d, %d) = %d, %d; want %d", x.y, x.m, right.year, right.m, k, err, x.err)
			}
		}
		for _, second := range faults() {
			if k, err := Between(x.y, x.m, second.y, second.m); k != 0 || err != x.err {
				t.Errorf("Between(%d, %d, %d, %d) = %d, %d; want %d", x.y, x.m, second.y, second.m, k, err, x.err)
			}
		}
	}
}

// P5.6: Add and Between invert each other, over any distance.
func TestInverses(t *testing.T) {
	list := append(scattered(), known{year: -lastYear, m: 1}, known{year: lastYear, m: 12})
	for _, a := range list {
		for _, b := range list {
			k, e := Between(a.year, a.m, b.year, b.m)
			z, n, f := Add(a.year, a.m, k)
			if z != b.year || n != b.m || e != api.OK || f != api.OK {
				t.Fatalf("Between(%d, %d, %d, %d) = %d, %d, but that many on is %d, %d, %d", a.year, a.m, b.year, b.m, k, e, z, n, f)
			}
		}
		for _, k := range []int64{0, 1, -1, 11, 12, 13, -11, -12, -13, 4799, -4801, 123_456_789_012_345, -123_456_789_012_345} {
			z, n, err := Add(a.year, a.m, k)
			if err != api.OK {
				continue
			}
			if got, err := Between(a.year, a.m, z, n); got != k || err != api.OK {
				t.Fatalf("Add(%d, %d, %d) = %d, %d, but Between says %d, %d", a.year, a.m, k, z, n, got, err)
			}
		}
	}
}
