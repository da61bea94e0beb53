package spread_test

import (
	"math/big"
	"math/rand"
	"reflect"
	"slices"
	"testing"

	"numnah/api"
	"numnah/spread"
)

// P3.6, P5
func TestDiscrepanciesAreBounded(t *testing.T) {
	one := quotient(1, 1)
	for _, l := range variety() {
		f, _, _, e := spread.Line(l.scale, l.points)
		if e != api.OK || value(f).Cmp(quotient(1, 2*len(l.points))) < 0 || value(f).Cmp(one) > 0 {
			t.Errorf("Line(%d, %v) = %v, %d", l.scale, l.points, f, e)
		}
	}
}

// P3.6, P5
func TestIntervalsAreBounded(t *testing.T) {
	for _, l := range variety() {
		f, _, e := spread.Interval(l.scale, l.points)
		d, _, _, _ := spread.Line(l.scale, l.points)
		if twice := new(big.Rat).Mul(value(d), quotient(2, 1)); e != api.OK || value(f).Cmp(twice) > 0 {
			t.Errorf("Interval(%d, %v) = %v, %d, but the discrepancy is %v", l.scale, l.points, f, e, d)
		}
		for place := 0; place <= l.scale; place++ {
			if value(f).Cmp(l.byBelow(place)) < 0 {
				t.Errorf("Interval(%d, %v) = %v, but the count below %d gives %v", l.scale, l.points, f, place, l.byBelow(place))
			}
		}
	}
}

// P3.6, P5
func TestWholeSeriesLieEvenly(t *testing.T) {
	whole := 0
	for b := 2; b <= api.MaxBase; b++ {
		n := 1
		for digits := 1; digits <= 9; digits++ {
			n *= b
			if n > api.MaxPoints {
				break
			}
			whole++
			points, e := spread.Series(b, digits, n)
			if e != api.OK || len(points) != n {
				t.Errorf("Series(%d, %d, %d) = %v, %d", b, digits, n, points, e)
			}
			if f, _, _, e := spread.Line(n, points); f != (api.Frac{Num: 1, Den: n}) || e != api.OK {
				t.Errorf("Line(%d, %v) = %v, %d", n, points, f, e)
			}
			if l, e := spread.Gaps(n, points); len(l) != 1 || e != api.OK {
				t.Errorf("Gaps(%d, %v) = %v, %d", n, points, l, e)
			}
		}
	}
	if whole != 5+3+2+2+2+2+9 {
		t.Errorf("%d series", whole)
	}
}

// P3.6, P5
func TestMirroringPointsKeepsTheInterval(t *testing.T) {
	for _, l := range variety() {
		mirrored := make([]int, len(l.points))
		for i, x := range l.points {
			mirrored[i] = l.scale - 1 - x
		}
		f, _, e := spread.Interval(l.scale, l.points)
		if g, _, o := spread.Interval(l.scale, mirrored); f != g || e != api.OK || o != api.OK {
			t.Errorf("Interval(%d, %v) = %v, %d, but Interval(%d, %v) = %v, %d", l.scale, l.points, f, e, l.scale, mirrored, g, o)
		}
	}
}

// shuffled returns the elements of a list in another order.
func shuffled[T any](random *rand.Rand, list []T) []T {
	other := slices.Clone(list)
	random.Shuffle(len(other), func(i, j int) { other[i], other[j] = other[j], other[i] })
	return other
}

// P3.6, P5: Move alone keeps the order.
func TestTheOrderOfPointsDoesNotMatter(t *testing.T) {
	random := rand.New(rand.NewSource(1))
	for _, l := range variety() {
		other := shuffled(random, l.points)
		for _, c := range calls(l.scale/2, 0) {
			if c.name == "Move" {
				continue
			}
			first, e := c.run(l.scale, l.points)
			if again, o := c.run(l.scale, other); e != api.OK || o != api.OK || !reflect.DeepEqual(first, again) {
				t.Errorf("%s(%d, %v) = %v, %d, but that of %v is %v, %d", c.name, l.scale, l.points, first, e, other, again, o)
			}
		}
	}
}

// P3.6, P5
func TestTheOrderOfPointsOnASheetDoesNotMatter(t *testing.T) {
	random := rand.New(rand.NewSource(2))
	for _, a := range varietyOfSheets() {
		other := shuffled(random, a.points)
		f, place, open, _ := spread.Sheet(a.scale, a.points)
		if g, at, is, e := spread.Sheet(a.scale, other); g != f || at != place || is != open || e != api.OK {
			t.Errorf("Sheet(%d, %v) = %v, %v, %t, but Sheet(%d, %v) = %v, %v, %t, %d", a.scale, a.points, f, place, open, a.scale, other, g, at, is, e)
		}
	}
}

// P3.6, P5
func TestFlatSheets(t *testing.T) {
	for _, l := range slices.Concat(smallLines(), someLines(200, 12), someLines(60, 100), evenLines()) {
		if l.scale > api.MaxSide {
			continue
		}
		points := make([][2]int, len(l.points))
		for i, x := range l.points {
			points[i] = [2]int{x, 0}
		}
		d, _, _, _ := spread.Line(l.scale, l.points)
		if f, _, _, e := spread.Sheet(l.scale, points); e != api.OK || value(f).Cmp(value(d)) < 0 {
			t.Errorf("Sheet(%d, %v) = %v, %d, but the line has %v", l.scale, points, f, e, d)
		}
	}
}
