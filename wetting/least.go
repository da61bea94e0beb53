package wetting

import "numnah/api"

// wets reports whether the closure of a set is the set of all vertices.
func (g *graph) wets(s set, round rule) bool {
	wet, _ := closure(s, round)
	return wet == g.all()
}

// least is the first set by which all vertices become wet. There is one, since all vertices are a set.
func (g *graph) least(round rule) set {
	for s := range g.sets() {
		if g.wets(s, round) {
			return s
		}
	}
	return g.all()
}

// Least returns the lexicographically smallest one of the smallest forcing sets.
func Least(n int, edges [][2]int) ([]int, api.Errno) {
	g, ok := readGraph(n, edges)
	if !ok {
		return nil, api.ErrArg
	}
	return g.least(g.force).list(), api.OK
}

// Fewest returns the lexicographically smallest one of the smallest sets that soak all vertices by the threshold r.
func Fewest(n int, edges [][2]int, r int) ([]int, api.Errno) {
	g, ok := readGraph(n, edges)
	if !ok || !isThreshold(r) {
		return nil, api.ErrArg
	}
	return g.least(g.soak(r)).list(), api.OK
}

// Shared reports whether one of the smallest sets that soak all vertices by the threshold r also forces them.
func Shared(n int, edges [][2]int, r int) (bool, api.Errno) {
	g, ok := readGraph(n, edges)
	if !ok || !isThreshold(r) {
		return false, api.ErrArg
	}
	smallest := n
search:
	for s := range g.sets() {
		switch {
		case s.size() > smallest:
			break search
		case !g.wets(s, g.soak(r)):
			continue
		case g.wets(s, g.force):
			return true, api.OK
		}
		smallest = s.size()
	}
	return false, api.OK
}
