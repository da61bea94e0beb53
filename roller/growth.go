package roller

import "numnah/api"

// times is the product of two matrices.
func (g grid) times(h grid) grid {
	var product grid
	for i := range g {
		for j := range h {
			for k := range h {
				product[i][j] += g[i][k] * h[k][j]
			}
		}
	}
	return product
}

// polynomial finds one coefficient after another from the traces of matrices that are made with the coefficients before it. The numbers of these matrices are coefficients of minors, so they are far inside of the range of int, and each division leaves no remainder.
func (m matrix) polynomial() []int {
	coefficients := make([]int, m.size+1)
	coefficients[m.size] = 1
	work := identity(m.size)
	for k := range m.size {
		work = m.at.times(work)
		trace := 0
		for i := range m.size {
			trace += work[i][i]
		}
		coefficient := -trace / (k + 1)
		coefficients[m.size-k-1] = coefficient
		for i := range m.size {
			work[i][i] += coefficient
		}
	}
	return coefficients
}

// Polynomial returns the coefficients, from that of the power 0 on, of the determinant of the matrix that has t at i, i and 0 elsewhere, minus m.
func Polynomial(m [][]int) ([]int, api.Errno) {
	a, ok := readMatrix(m)
	if !ok {
		return nil, api.ErrArg
	}
	return a.polynomial(), api.OK
}

// inside is the sum of the numbers of the steps from a number that stay in its class: 0 if the class is trivial.
func (c classed) inside(i int) int {
	sum := 0
	for j := range c.size {
		if c.together(i, j) {
			sum += c.at[i][j]
		}
	}
	return sum
}

// explodes reports whether walks from a number meet a class in which the walks have a choice again and again.
func (c classed) explodes(from int) bool {
	for i := range c.size {
		if c.leads[from][i] && c.inside(i) > 1 {
			return true
		}
	}
	return false
}

// rounds is the greatest number of classes that are not trivial on a walk from a number.
func (c classed) rounds(from int) int {
	later := 0
	for i := range c.size {
		if c.leaves(from, i) {
			later = max(later, c.rounds(i))
		}
	}
	if c.inside(from) == 0 {
		return later
	}
	return later + 1
}

// Growth returns how the count of walks from i grows: -1 if it is 0 from some k on, -2 if it grows faster than every power, and otherwise the degree.
func Growth(m [][]int, i int) (int, api.Errno) {
	c, ok := readClassed(m)
	if !ok || !c.has(i) {
		return 0, api.ErrArg
	}
	if c.explodes(i) {
		return -2, api.OK
	}
	// A walk goes around in each class as often as it likes, but the length leaves no choice for the last one. Without any class to go around in, walks end: the degree below 0.
	return c.rounds(i) - 1, api.OK
}
