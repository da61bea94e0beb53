package strip

import (
	"slices"

	"numnah/api"
)

// everything is the set of all rows.
func (g *graph) everything() set {
	var all set
	for _, row := range g.all {
		all[row] = true
	}
	return all
}

// above is the set of the rows below which one of the set may stand.
func (g *graph) above(s set) set {
	var upper set
	for _, row := range g.all {
		upper[row] = slices.ContainsFunc(g.steps[row], func(next int) bool { return s[next] })
	}
	return upper
}

// Longest returns the greatest number of rows of a strip of m columns that keeps the rule, and -1 if there is no greatest one.
func Longest(r api.Rule, m int) (int, api.Errno) {
	g, ok := readGraph(r, m)
	if !ok {
		return 0, api.ErrArg
	}
	rows := 0
	for lasting := g.everything(); lasting != (set{}); rows++ { // those that begin a strip with one row more
		longer := g.above(lasting)
		if longer == lasting {
			return -1, api.OK
		}
		lasting = longer
	}
	return rows, api.OK
}

// ring is a ring with the smallest number of rows that begins with a row, or nil if there is none.
func (g *graph) ring(first int) []string {
	above := make([]int, len(g.rows)) // a row that was reached before, or -1
	for i := range above {
		above[i] = -1
	}
	reached := []int{first}
	for i := 0; i < len(reached); i++ {
		last := reached[i]
		for _, next := range g.steps[last] {
			if next == first {
				return g.upTo(last, above)
			}
			if above[next] < 0 {
				above[next] = last
				reached = append(reached, next)
			}
		}
	}
	return nil
}

// upTo is the strip that ends with a row and has above each row the one that is told, if one is.
func (g *graph) upTo(last int, above []int) []string {
	var strip []string
	for row := last; row >= 0; row = above[row] {
		strip = append(strip, g.rows[row])
	}
	slices.Reverse(strip)
	return strip
}

// Ever returns a ring with the smallest number of rows that keeps the rule.
func Ever(r api.Rule, m int) ([]string, api.Errno) {
	g, ok := readGraph(r, m)
	if !ok {
		return nil, api.ErrArg
	}
	var shortest []string
	for _, first := range g.all {
		if ring := g.ring(first); ring != nil && (shortest == nil || len(ring) < len(shortest)) {
			shortest = ring
		}
	}
	if shortest == nil {
		return nil, api.ErrNone
	}
	return shortest, api.OK
}

// lasting has for each number up to n the set of the rows that have so many rows below them in some strip.
func (g *graph) lasting(n int) []set {
	lasting := []set{g.everything()}
	for k := range n {
		lasting = append(lasting, g.above(lasting[k]))
	}
	return lasting
}

// Extend returns the lexicographically smallest strip with n rows that keeps the rule and begins with the rows of a strip.
func Extend(r api.Rule, strip []string, n int) ([]string, api.Errno) {
	a, ok := readStrip(r, strip)
	if !ok || !isLength(n) || n < len(strip) {
		return nil, api.ErrArg
	}
	if !a.keeps(strip) {
		return nil, api.ErrNone
	}
	g, more := a.graph(len(strip[0])), n-len(strip)
	lasting := g.lasting(more)
	last := g.place[strip[len(strip)-1]]
	if !lasting[more][last] {
		return nil, api.ErrNone
	}
	suits := func(row, left int) bool { return lasting[left-1][row] }
	return slices.Concat(strip, g.strip(g.lay(g.steps[last], more, suits))), api.OK
}
