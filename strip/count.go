package strip

import "numnah/api"

// maxCount is the greatest number of strips that is counted.
const maxCount = 1 << 60

// kind is a kind of strips: the position of their first row, and how many rows they have.
type kind [2]int

// counts has the numbers of strips of each kind.
type counts map[kind]int

// total is the number of strips that begin with one of these rows and have so many rows. It reports whether this is not too great.
func (c counts) total(firsts []int, rows int) (int, bool) {
	total := 0
	for _, first := range firsts {
		total += c[kind{first, rows}]
		if total > maxCount {
			return 0, false
		}
	}
	return total, true
}

// countKinds counts the strips of all kinds with 1 to n rows, and reports whether none of these numbers is too great.
func (g *graph) countKinds(n int) (counts, bool) {
	c := counts{}
	for _, first := range g.all {
		c[kind{first, 1}] = 1
	}
	for rows := 2; rows <= n; rows++ {
		for _, first := range g.all {
			number, ok := c.total(g.steps[first], rows-1)
			if !ok {
				return nil, false
			}
			c[kind{first, rows}] = number
		}
	}
	return c, true
}

// count counts the strips of all kinds, and those with n rows, and reports whether no number of strips with at most n rows is too great.
func (g *graph) count(n int) (counts, int, bool) {
	c, ok := g.countKinds(n)
	number := 1 // the strip without rows
	for rows := 1; ok && rows <= n; rows++ {
		number, ok = c.total(g.all, rows)
	}
	return c, number, ok
}

// Count returns the number of strips of m columns and n rows that keep the rule.
func Count(r api.Rule, m, n int) (int, api.Errno) {
	g, ok := readGraph(r, m)
	if !ok || !isLength(n) {
		return 0, api.ErrArg
	}
	_, number, ok := g.count(n)
	if !ok {
		return 0, api.ErrFull
	}
	return number, api.OK
}

// ringsFrom is the number of rings of n rows that begin with a row. No number of strips of at most n rows that begin with it may be too great, so that no sum here is.
func (g *graph) ringsFrom(first, n int) int {
	ends := make([]int, len(g.rows)) // the numbers of strips that end with each row
	ends[first] = 1
	for range n {
		longer := make([]int, len(g.rows))
		for row, number := range ends {
			if number == 0 {
				continue
			}
			for _, next := range g.steps[row] {
				longer[next] += number
			}
		}
		ends = longer
	}
	return ends[first]
}

// Rings returns the number of rings of m columns and n rows.
func Rings(r api.Rule, m, n int) (int, api.Errno) {
	g, ok := readGraph(r, m)
	if !ok || n < 1 || !isLength(n) {
		return 0, api.ErrArg
	}
	if _, ok := g.countKinds(n); !ok {
		return 0, api.ErrFull
	}
	number := 0
	for _, first := range g.all {
		number += g.ringsFrom(first, n)
		if number > maxCount {
			return 0, api.ErrFull
		}
	}
	return number, api.OK
}

// Item returns the strip that has k strips with m columns and n rows that keep the rule before it.
func Item(r api.Rule, m, n, k int) ([]string, api.Errno) {
	g, ok := readGraph(r, m)
	if !ok || !isLength(n) {
		return nil, api.ErrArg
	}
	c, number, ok := g.count(n)
	if !ok {
		return nil, api.ErrFull
	}
	if k < 0 || k >= number {
		return nil, api.ErrArg
	}
	before := k
	suits := func(row, left int) bool {
		same := c[kind{row, left}]
		if before < same {
			return true
		}
		before -= same
		return false
	}
	return g.strip(g.lay(g.all, n, suits)), api.OK
}

// Index returns how many strips of the same numbers of columns and rows that keep the rule come before a strip.
func Index(r api.Rule, strip []string) (int, api.Errno) {
	a, ok := readStrip(r, strip)
	if !ok {
		return 0, api.ErrArg
	}
	g := a.graph(len(strip[0]))
	c, _, ok := g.count(len(strip))
	if !ok {
		return 0, api.ErrFull
	}
	if !a.keeps(strip) {
		return 0, api.ErrNone
	}
	before, options := 0, g.all
	for i, text := range strip {
		row := g.place[text]
		for _, smaller := range options {
			if smaller < row {
				before += c[kind{smaller, len(strip) - i}]
			}
		}
		options = g.steps[row]
	}
	return before, api.OK
}
