package spread_test

import (
	"math"
	"math/big"
	"slices"
	"testing"

	"numnah/api"
	"numnah/spread"
)

// P3.5
func TestBestByHand(t *testing.T) {
	for _, x := range []struct {
		n      int
		f      api.Frac
		points []int
	}{
		{1, api.Frac{Num: 1, Den: 2}, []int{1}}, {2, api.Frac{Num: 1, Den: 4}, []int{1, 3}}, {5, api.Frac{Num: 1, Den: 10}, []int{1, 3, 5, 7, 9}},
	} {
		if f, l, e := spread.Best(x.n); f != x.f || e != api.OK || !slices.Equal(l, x.points) {
			t.Errorf("Best(%d) = %v, %v, %d", x.n, f, l, e)
		}
	}
}

// P3.5
func TestBestPointsHaveTheDiscrepancy(t *testing.T) {
	for n := 1; n <= api.MaxPoints; n++ {
		f, l, e := spread.Best(n)
		if e != api.OK || len(l) != n || !slices.IsSorted(l) {
			t.Errorf("Best(%d) = %v, %v, %d", n, f, l, e)
			continue
		}
		if d, _, _ := (lineOf{2 * n, l}).discrepancy(); !isThat(f, d) {
			t.Errorf("Best(%d) = %v, %v, which have %v", n, f, l, d)
		}
	}
}

// ascending calls visit with all lists of n numbers below scale in ascending order.
func ascending(n, scale int, visit func([]int)) {
	var add func(list []int)
	add = func(list []int) {
		if len(list) == n {
			visit(list)
			return
		}
		from := 0
		if len(list) > 0 {
			from = list[len(list)-1]
		}
		for x := from; x < scale; x++ {
			add(append(list, x))
		}
	}
	add(make([]int, 0, n))
}

// P3.5: no points of any of these scales have a smaller discrepancy.
func TestNoneAreBetter(t *testing.T) {
	for n, greatest := range []int{1: 40, 2: 16, 3: 10, 4: 9, 5: 7} {
		if n == 0 {
			continue
		}
		f, _, _ := spread.Best(n)
		for scale := 1; scale <= greatest; scale++ {
			ascending(n, scale, func(points []int) {
				if d, _, _ := (lineOf{scale, points}).discrepancy(); d.Cmp(value(f)) < 0 {
					t.Errorf("Best(%d) = %v, but %v of scale %d have %v", n, f, points, scale, d)
				}
			})
		}
	}
}

// P3.5
func TestBestErrors(t *testing.T) {
	for _, n := range []int{0, -1, 61, 62, 1000, math.MinInt, math.MaxInt} {
		if f, l, e := spread.Best(n); e != api.ErrArg || f != (api.Frac{}) || len(l) != 0 {
			t.Errorf("Best(%d) = %v, %v, %d", n, f, l, e)
		}
	}
}

// noFractions returns fractions that are not valid.
func noFractions() []api.Frac {
	return []api.Frac{
		{}, {Num: 1}, {Num: -1}, {Num: 0, Den: 2}, {Num: 0, Den: -1}, {Num: 2, Den: 4}, {Num: -2, Den: 4}, {Num: 3, Den: 3}, {Num: 2, Den: 6}, {Num: 1, Den: -2}, {Num: -1, Den: -2}, {Num: 1, Den: -1},
		{Num: 1, Den: math.MinInt}, {Num: math.MinInt, Den: math.MinInt}, {Num: math.MinInt, Den: 0}, {Num: math.MinInt, Den: 2}, {Num: math.MinInt, Den: -1}, {Num: math.MaxInt, Den: math.MaxInt}, {Num: 0, Den: math.MaxInt}, {Num: 1 << 40, Den: 1 << 62}, {Num: 1, Den: -math.MaxInt},
	}
}

// P3.5
func TestSumsByHand(t *testing.T) {
	for _, x := range [][3]api.Frac{
		{{Num: 0, Den: 1}, {Num: 0, Den: 1}, {Num: 0, Den: 1}},
		{{Num: 1, Den: 2}, {Num: 1, Den: 3}, {Num: 5, Den: 6}},
		{{Num: 1, Den: 2}, {Num: 1, Den: 2}, {Num: 1, Den: 1}},
		{{Num: 1, Den: 6}, {Num: 1, Den: 10}, {Num: 4, Den: 15}},
		{{Num: -1, Den: 2}, {Num: 1, Den: 2}, {Num: 0, Den: 1}},
		{{Num: -3, Den: 4}, {Num: 1, Den: 4}, {Num: -1, Den: 2}},
		{{Num: 1000000000, Den: 1}, {Num: 1000000000, Den: 1}, {Num: 2000000000, Den: 1}},
		{{Num: -1000000000, Den: 1}, {Num: -1000000000, Den: 1}, {Num: -2000000000, Den: 1}},
		{{Num: 1, Den: 1000000000}, {Num: 1, Den: 999999999}, {Num: 1999999999, Den: 999999999000000000}},
		{{Num: 999999999, Den: 1000000000}, {Num: 1000000000, Den: 999999999}, {Num: 1999999998000000001, Den: 999999999000000000}},
		{{Num: -999999999, Den: 1000000000}, {Num: -1000000000, Den: 999999999}, {Num: -1999999998000000001, Den: 999999999000000000}},
	} {
		if f, e := spread.Add(x[0], x[1]); f != x[2] || e != api.OK {
			t.Errorf("Add(%v, %v) = %v, %d", x[0], x[1], f, e)
		}
	}
}

// someFractions returns valid fractions that can be added.
func someFractions() []api.Frac {
	var list []api.Frac
	numbers := []int{0, 1, 2, 3, 4, 5, 6, 7, 12, 60, 1001, 65536, 999999998, 999999999, 1000000000}
	for _, num := range numbers {
		for _, den := range numbers {
			if den > 0 && divisor(num, den) == 1 {
				list = append(list, api.Frac{Num: num, Den: den}, api.Frac{Num: -num, Den: den})
			}
		}
	}
	return list
}

// P3.5
func TestSums(t *testing.T) {
	for _, f := range someFractions() {
		for _, g := range someFractions() {
			want := new(big.Rat).Add(value(f), value(g))
			s, e := spread.Add(f, g)
			if e != api.OK || !want.Num().IsInt64() || int64(s.Num) != want.Num().Int64() || int64(s.Den) != want.Denom().Int64() {
				t.Errorf("Add(%v, %v) = %v, %d", f, g, s, e)
			}
		}
	}
}

// P3.5
func TestSumErrors(t *testing.T) {
	great := []api.Frac{
		{Num: 1000000001, Den: 1}, {Num: -1000000001, Den: 1}, {Num: 1, Den: 1000000001}, {Num: 0, Den: 1000000001}, {Num: -1, Den: 1000000001}, {Num: 1000000001, Den: 1000000000}, {Num: 1000000000, Den: 1000000001},
		{Num: math.MaxInt, Den: 1}, {Num: math.MinInt, Den: 1}, {Num: 1, Den: math.MaxInt}, {Num: math.MinInt, Den: math.MaxInt}, {Num: math.MaxInt - 1, Den: math.MaxInt},
	}
	for _, f := range append(noFractions(), great...) {
		for _, g := range append(noFractions(), api.Frac{Num: 1, Den: 2}, api.Frac{Num: 0, Den: 1}, api.Frac{Num: 1, Den: 1000000001}) {
			for _, x := range [][2]api.Frac{{f, g}, {g, f}} {
				if s, e := spread.Add(x[0], x[1]); e != api.ErrArg || s != (api.Frac{}) {
					t.Errorf("Add(%v, %v) = %v, %d", x[0], x[1], s, e)
				}
			}
		}
	}
}
