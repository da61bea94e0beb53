package roller

import "numnah/api"

// isVector reports whether the matrix can be applied to a list whose numbers are to be at least as great as the given one.
func (m matrix) isVector(x []int, least int) bool {
	if len(x) != m.size {
		return false
	}
	for _, number := range x {
		if number < least || number > api.MaxVector {
			return false
		}
	}
	return true
}

// apply is the list of the sums of the numbers of each list of the matrix, each times the number of x.
func (m matrix) apply(x []int) []int {
	sums := make([]int, m.size)
	for i := range m.size {
		for j := range m.size {
			sums[i] += m.at[i][j] * x[j]
		}
	}
	return sums
}

// less compares two quotients of numbers of apply and numbers of its list, whose products are far inside of the range of int.
func less(a, b api.Frac) bool {
	return a.Num*b.Den < b.Num*a.Den
}

// lowest is a fraction in lowest terms.
func lowest(f api.Frac) api.Frac {
	divisor := commonDivisor(f.Num, f.Den)
	return api.Frac{Num: f.Num / divisor, Den: f.Den / divisor}
}

// Next returns the list whose number at i is the sum, over all j, of the number of m at i, j times x[j].
func Next(m [][]int, x []int) ([]int, api.Errno) {
	a, ok := readMatrix(m)
	if !ok || !a.isVector(x, 0) {
		return nil, api.ErrArg
	}
	return a.apply(x), api.OK
}

// Bounds returns the smallest and the greatest one of the quotients of the numbers of Next(m, x) and x.
func Bounds(m [][]int, x []int) (api.Frac, api.Frac, api.Errno) {
	a, ok := readMatrix(m)
	if !ok || !a.isVector(x, 1) {
		return api.Frac{}, api.Frac{}, api.ErrArg
	}
	next := a.apply(x)
	lower := api.Frac{Num: next[0], Den: x[0]}
	upper := lower
	for i := range a.size {
		quotient := api.Frac{Num: next[i], Den: x[i]}
		if less(quotient, lower) {
			lower = quotient
		}
		if less(upper, quotient) {
			upper = quotient
		}
	}
	return lowest(lower), lowest(upper), api.OK
}
