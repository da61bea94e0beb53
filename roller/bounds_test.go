package roller_test

import (
	"math"
	"math/big"
	"math/rand"
	"slices"
	"testing"

	"numnah/api"
	"numnah/roller"
)

// someVectors returns lists of numbers, the same ones each time: small and great ones, and the smallest and the greatest one.
func someVectors(size, least, count int) [][]int {
	random := rand.New(rand.NewSource(int64(100*size + least)))
	list := [][]int{slices.Repeat([]int{least}, size), slices.Repeat([]int{api.MaxVector}, size)}
	for range count {
		greatest := []int{3, 10, 1000, api.MaxVector}[random.Intn(4)]
		x := make([]int, size)
		for i := range x {
			x[i] = least + random.Intn(greatest-least+1)
			if random.Intn(8) == 0 {
				x[i] = []int{least, api.MaxVector}[random.Intn(2)]
			}
		}
		list = append(list, x)
	}
	return list
}

// P2.4
func TestNext(t *testing.T) {
	for _, m := range variety() {
		for _, x := range someVectors(len(m), 0, 4) {
			l, e := roller.Next(m, x)
			if e != api.OK || len(l) != len(m) {
				t.Errorf("Next(%v, %v) = %v, %d", m, x, l, e)
				continue
			}
			for i := range m {
				sum := 0
				for j := range m {
					sum += m[i][j] * x[j]
				}
				if l[i] != sum {
					t.Errorf("Next(%v, %v) = %v", m, x, l)
				}
			}
		}
	}
}

// P2.4
func TestBoundsByHand(t *testing.T) {
	golden := [][]int{{0, 1}, {1, 1}}
	full := square(8, func(i, j int) int { return 9 })
	for _, x := range []struct {
		m            [][]int
		x            []int
		lower, upper api.Frac
	}{
		{golden, []int{1, 1}, api.Frac{Num: 1, Den: 1}, api.Frac{Num: 2, Den: 1}},
		{golden, []int{1, 2}, api.Frac{Num: 3, Den: 2}, api.Frac{Num: 2, Den: 1}},
		{golden, []int{4, 6}, api.Frac{Num: 3, Den: 2}, api.Frac{Num: 5, Den: 3}},
		{[][]int{{0}}, []int{7}, api.Frac{Num: 0, Den: 1}, api.Frac{Num: 0, Den: 1}},
		{[][]int{{6}}, []int{100000000}, api.Frac{Num: 6, Den: 1}, api.Frac{Num: 6, Den: 1}},
		{[][]int{{0, 0}, {9, 9}}, []int{100000000, 1}, api.Frac{Num: 0, Den: 1}, api.Frac{Num: 900000009, Den: 1}},
		{full, []int{1, 100000000, 100000000, 100000000, 100000000, 100000000, 100000000, 99999999}, api.Frac{Num: 63, Den: 1}, api.Frac{Num: 6300000000, Den: 1}},
		{full, []int{99999999, 100000000, 100000000, 100000000, 100000000, 100000000, 100000000, 99999998}, api.Frac{Num: 7199999973, Den: 100000000}, api.Frac{Num: 7199999973, Den: 99999998}},
	} {
		lower, upper, e := roller.Bounds(x.m, x.x)
		if e != api.OK || lower != x.lower || upper != x.upper {
			t.Errorf("Bounds(%v, %v) = %v, %v, %d", x.m, x.x, lower, upper, e)
		}
	}
}

// isValid reports whether a fraction is valid.
func isValid(f api.Frac) bool {
	return f.Den >= 1 && f.Num >= 0 && divisor(f.Num, f.Den) == 1
}

// value returns a fraction whose Den is not 0.
func value(f api.Frac) *big.Rat {
	return big.NewRat(int64(f.Num), int64(f.Den))
}

// P2.4
func TestBounds(t *testing.T) {
	for _, m := range variety() {
		for _, x := range someVectors(len(m), 1, 6) {
			lower, upper, e := roller.Bounds(m, x)
			if e != api.OK || !isValid(lower) || !isValid(upper) {
				t.Errorf("Bounds(%v, %v) = %v, %v, %d", m, x, lower, upper, e)
				continue
			}
			l, _ := roller.Next(m, x)
			quotients := make([]*big.Rat, len(m))
			for i := range l {
				quotients[i] = big.NewRat(int64(l[i]), int64(x[i]))
			}
			if value(lower).Cmp(slices.MinFunc(quotients, (*big.Rat).Cmp)) != 0 || value(upper).Cmp(slices.MaxFunc(quotients, (*big.Rat).Cmp)) != 0 {
				t.Errorf("Bounds(%v, %v) = %v, %v", m, x, lower, upper)
			}
		}
	}
}

// P2.4
func TestVectorErrors(t *testing.T) {
	m := [][]int{{0, 1}, {1, 1}}
	for _, x := range [][]int{nil, {}, {1}, {1, 2, 3}, {1, -1}, {-1, 1}, {1, 100000001}, {100000001, 1}, {1, math.MinInt}, {math.MaxInt, 1}, make([]int, 1000)} {
		if l, e := roller.Next(m, x); e != api.ErrArg || len(l) != 0 {
			t.Errorf("Next(%v) = %v, %d", x, l, e)
		}
		if a, b, e := roller.Bounds(m, x); e != api.ErrArg || a != (api.Frac{}) || b != (api.Frac{}) {
			t.Errorf("Bounds(%v) = %v, %v, %d", x, a, b, e)
		}
	}
	for _, x := range [][]int{{0, 1}, {1, 0}, {0, 0}} {
		if l, e := roller.Next(m, x); e != api.OK || !slices.Equal(l, []int{x[1], x[0] + x[1]}) {
			t.Errorf("Next(%v) = %v, %d", x, l, e)
		}
		if a, b, e := roller.Bounds(m, x); e != api.ErrArg || a != (api.Frac{}) || b != (api.Frac{}) {
			t.Errorf("Bounds(%v) = %v, %v, %d", x, a, b, e)
		}
	}
}
