package wetting

import (
	"iter"

	"numnah/api"
)

// first is the smallest wet vertex with an only dry neighbor, and that neighbor. It reports whether there is one.
func (g *graph) first(wet set) (int, int, bool) {
	for u := range wet.vertices() {
		if v := g.onlyDry(u, wet); v >= 0 {
			return u, v, true
		}
	}
	return 0, 0, false
}

// chronicle visits the pairs of the chronicle of a set that always takes the smallest vertex that can wet one, until none can.
func (g *graph) chronicle(wet set) iter.Seq2[int, int] {
	return func(yield func(int, int) bool) {
		for {
			u, v, ok := g.first(wet)
			if !ok || !yield(u, v) {
				return
			}
			wet[v] = true
		}
	}
}

// isChronicle reports whether the pairs are a chronicle of a set.
func (g *graph) isChronicle(wet set, pairs [][2]int) bool {
	for _, p := range pairs {
		u, v := p[0], p[1]
		if !g.has(u) || !g.has(v) || !wet[u] || g.onlyDry(u, wet) != v {
			return false
		}
		wet[v] = true
	}
	return true
}

// Chronicle returns a chronicle of a set after which no vertex can be wetted any more.
func Chronicle(n int, edges [][2]int, set []int) ([][2]int, api.Errno) {
	g, s, ok := readSet(n, edges, set)
	if !ok {
		return nil, api.ErrArg
	}
	var pairs [][2]int
	for u, v := range g.chronicle(s) {
		pairs = append(pairs, [2]int{u, v})
	}
	return pairs, api.OK
}

// Check returns OK if the chronicle is one of the set.
func Check(n int, edges [][2]int, set []int, chronicle [][2]int) api.Errno {
	g, s, ok := readSet(n, edges, set)
	if !ok {
		return api.ErrArg
	}
	if !g.isChronicle(s, chronicle) {
		return api.ErrAnswer
	}
	return api.OK
}

// Chains returns for each vertex of a forcing set the vertex, the one that it wets, the one that this wets, and so on.
func Chains(n int, edges [][2]int, set []int) ([][]int, api.Errno) {
	g, s, ok := readSet(n, edges, set)
	if !ok {
		return nil, api.ErrArg
	}
	if !g.wets(s, g.force) {
		return nil, api.ErrNone
	}
	next := map[int]int{} // the vertex that a vertex wets; it wets only one, since no neighbor of it is dry then
	for u, v := range g.chronicle(s) {
		next[u] = v
	}
	var chains [][]int
	for _, v := range set {
		chain := []int{v}
		for u, ok := next[v]; ok; u, ok = next[u] {
			chain = append(chain, u)
		}
		chains = append(chains, chain)
	}
	return chains, api.OK
}
