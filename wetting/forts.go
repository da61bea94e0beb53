package wetting

import "numnah/api"

// isFort reports whether a set is a fort: it is not empty, and if all other vertices are wet, none of them can wet one of it.
func (g *graph) isFort(s set) bool {
	wet := g.all().minus(s)
	return s != set{} && g.force(wet) == wet
}

// leastForts are the forts that contain no smaller one, in the order in which sets are visited.
func (g *graph) leastForts() []set {
	var least []set
	holds := map[set]bool{} // the forts, and the other sets that contain one
search:
	for s := range g.sets() {
		for v := range s.vertices() {
			if holds[s.without(v)] {
				holds[s] = true
				continue search
			}
		}
		if g.isFort(s) {
			holds[s] = true
			least = append(least, s)
		}
	}
	return least
}

// dry are the vertices outside of the closure of a set. They are the greatest fort or shelter outside of the set, since no vertex of such a one ever becomes wet.
func (g *graph) dry(s set, round rule) ([]int, api.Errno) {
	wet, _ := closure(s, round)
	if wet == g.all() {
		return nil, api.ErrNone
	}
	return g.all().minus(wet).list(), api.OK
}

// Fort returns the greatest fort that has no vertex of the set.
func Fort(n int, edges [][2]int, set []int) ([]int, api.Errno) {
	g, s, ok := readSet(n, edges, set)
	if !ok {
		return nil, api.ErrArg
	}
	return g.dry(s, g.force)
}

// IsFort reports whether a set is a fort.
func IsFort(n int, edges [][2]int, set []int) (bool, api.Errno) {
	g, s, ok := readSet(n, edges, set)
	if !ok {
		return false, api.ErrArg
	}
	return g.isFort(s), api.OK
}

// Forts returns the forts that contain no smaller fort, ordered by their lengths, and those of one length lexicographically.
func Forts(n int, edges [][2]int) ([][]int, api.Errno) {
	g, ok := readGraph(n, edges)
	if !ok {
		return nil, api.ErrArg
	}
	var forts [][]int
	for _, fort := range g.leastForts() {
		forts = append(forts, fort.list())
	}
	return forts, api.OK
}

// Shelter returns the greatest shelter for r that has no vertex of the set.
func Shelter(n int, edges [][2]int, set []int, r int) ([]int, api.Errno) {
	g, s, ok := readSet(n, edges, set)
	if !ok || !isThreshold(r) {
		return nil, api.ErrArg
	}
	return g.dry(s, g.soak(r))
}
