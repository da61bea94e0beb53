package roller_test

import (
	"slices"
	"testing"

	"numnah/api"
	"numnah/roller"
)

// P2.5
func TestPolynomialsByHand(t *testing.T) {
	for _, x := range []struct {
		m          [][]int
		polynomial []int
	}{
		{[][]int{{0, 1}, {1, 1}}, []int{-1, -1, 1}},
		{[][]int{{0}}, []int{0, 1}},
		{[][]int{{9}}, []int{-9, 1}},
		{[][]int{{1, 2}, {3, 4}}, []int{-2, -5, 1}},
		{[][]int{{0, 1, 0}, {0, 0, 1}, {1, 0, 0}}, []int{-1, 0, 0, 1}},
		{square(8, func(i, j int) int { return 9 }), []int{0, 0, 0, 0, 0, 0, 0, -72, 1}},
		{rings(1, 8), []int{-1, 0, 0, 0, 0, 0, 0, 0, 1}},
		{square(8, func(i, j int) int { return 0 }), []int{0, 0, 0, 0, 0, 0, 0, 0, 1}},
	} {
		if p, e := roller.Polynomial(x.m); e != api.OK || !slices.Equal(p, x.polynomial) {
			t.Errorf("Polynomial(%v) = %v, %d", x.m, p, e)
		}
	}
}

// P2.5: a polynomial of the degree n is known by its values at n + 1 points.
func TestPolynomials(t *testing.T) {
	for _, m := range slices.Concat(variety(), hadamard()) {
		p, e := roller.Polynomial(m)
		if e != api.OK || len(p) != len(m)+1 || p[len(m)] != 1 {
			t.Errorf("Polynomial(%v) = %v, %d", m, p, e)
			continue
		}
		for x := range len(m) + 1 {
			at := x - len(m)/2
			value := determinant(square(len(m), func(i, j int) int {
				if i == j {
					return at - m[i][j]
				}
				return -m[i][j]
			}))
			if value.Cmp(valueOf(p, at)) != 0 {
				t.Errorf("Polynomial(%v) = %v: wrong at %d, where the determinant is %v", m, p, at, value)
			}
		}
	}
}

// hadamard returns matrices with great determinants.
func hadamard() [][][]int {
	bits := []int{0, 1, 1, 0, 1, 0, 0, 1}
	return [][][]int{
		square(8, func(i, j int) int { return 9 * (1 - bits[i&j]) }),
		square(8, func(i, j int) int { return 9 * bits[i&j] }),
		square(7, func(i, j int) int { return 9 * bits[(i+1)&(j+1)] }),
		square(8, func(i, j int) int { return (i*i + 3*i*j + 5*j) % 10 }),
	}
}

// P2.5
func TestGrowthByHand(t *testing.T) {
	for _, x := range []struct {
		m      [][]int
		growth []int
	}{
		{[][]int{{1, 1}, {0, 1}}, []int{1, 0}},
		{[][]int{{0, 1}, {1, 1}}, []int{-2, -2}},
		{[][]int{{0, 1}, {1, 0}}, []int{0, 0}},
		{[][]int{{0}}, []int{-1}},
		{[][]int{{1}}, []int{0}},
		{[][]int{{2}}, []int{-2}},
		{[][]int{{1, 9}, {0, 1}}, []int{1, 0}},
		{[][]int{{0, 2}, {1, 0}}, []int{-2, -2}},
		{[][]int{{0, 9}, {0, 0}}, []int{-1, -1}},
		{[][]int{{0, 9}, {0, 1}}, []int{0, 0}},
		{[][]int{{1, 0}, {0, 1}}, []int{0, 0}},
		{[][]int{{1, 9}, {0, 0}}, []int{0, -1}},
		{[][]int{{1, 1, 0}, {0, 0, 1}, {0, 0, 1}}, []int{1, 0, 0}},
		// A class that grows fast is not met from all.
		{[][]int{{1, 0, 1}, {1, 2, 0}, {0, 0, 1}}, []int{1, -2, 0}},
		{rings(1, 1, 1, 1, 1, 1, 1, 1, 1), []int{7, 6, 5, 4, 3, 2, 1, 0}},
		{rings(9, 2, 3, 3), []int{2, 2, 1, 1, 1, 0, 0, 0}},
		{wielandt(8), []int{-2, -2, -2, -2, -2, -2, -2, -2}},
	} {
		for i, growth := range x.growth {
			if g, e := roller.Growth(x.m, i); e != api.OK || g != growth {
				t.Errorf("Growth(%v, %d) = %d, %d", x.m, i, g, e)
			}
		}
	}
}

// P2.5
func TestGrowth(t *testing.T) {
	list := slices.Concat(sparse(), allMatrices(1, 10), allMatrices(2, 4), allMatrices(3, 2), someMatrices(4, 60), someMatrices(5, 60), someMatrices(6, 60), someMatrices(7, 15), someMatrices(8, 15))
	for _, m := range list {
		counts := countsOf(m)
		for i := range m {
			if g, e := roller.Growth(m, i); e != api.OK || g != growthOf(m, counts, i) {
				t.Errorf("Growth(%v, %d) = %d, %d, not %d", m, i, g, e, growthOf(m, counts, i))
			}
		}
	}
}
