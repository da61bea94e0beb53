package roller

import (
	"numnah/api"
	"numnah/fraction"
)

// isVector reports whether the matrix can be applied to a list whose numbers are to be at least as great as the given one.
func (m matrix) isVector(x []int, least int) bool {
	if len(x) != m.size {
		return false
	}
	for _, number := range x {
		if number < least || number > api.MaxVector {
			return false
		}
	}
	return true
}

// apply is the list of the sums of the numbers of each list of the matrix, each times the number of x.
func (m matrix) apply(x []int) []int {
	sums := make([]int, m.size)
	for i := range m.size {
		for j := range m.size {
			sums[i] += m.at[i][j] * x[j]
		}
	}
	return sums
}

// Next returns the list whose number at i is the sum, over all j, of the number of m at i, j times x[j].
func Next(m [][]int, x []int) ([]int, api.Errno) {
	a, ok := readMatrix(m)
	if !ok || !a.isVector(x, 0) {
		return nil, api.ErrArg
	}
	return a.apply(x), api.OK
}

// Bounds returns the smallest and the greatest one of the quotients of the numbers of Next(m, x) and x.
func Bounds(m [][]int, x []int) (api.Frac, api.Frac, api.Errno) {
	a, ok := readMatrix(m)
	if !ok || !a.isVector(x, 1) {
		return api.Frac{}, api.Frac{}, api.ErrArg
	}
	next := a.apply(x) // at most 8 * 9 * 10^8, so that the products by which the quotients are compared are far inside of the range of int
	lower := fraction.Lowest(next[0], x[0])
	upper := lower
	for i := range a.size {
		quotient := fraction.Lowest(next[i], x[i])
		if fraction.Compare(quotient, lower) < 0 {
			lower = quotient
		}
		if fraction.Compare(quotient, upper) > 0 {
			upper = quotient
		}
	}
	return lower, upper, api.OK
}
