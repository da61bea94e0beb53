package wetting

import (
	"iter"

	"numnah/api"
)

// rule makes a round: it takes what is wet before the round, and returns what is wet after it.
type rule func(wet set) set

// onlyDry is the only dry neighbor of a vertex, or -1 if it has none or several.
func (g *graph) onlyDry(v int, wet set) int {
	only := -1
	for u := range g.near[v].minus(wet).vertices() {
		if only >= 0 {
			return -1
		}
		only = u
	}
	return only
}

// force is the rule that a wet vertex wets its only dry neighbor.
func (g *graph) force(wet set) set {
	next := wet
	for v := range wet.vertices() {
		if u := g.onlyDry(v, wet); u >= 0 {
			next[u] = true
		}
	}
	return next
}

// soak returns the rule that a vertex becomes wet with at least r wet neighbors.
func (g *graph) soak(r int) rule {
	return func(wet set) set {
		next := wet
		for v := range g.n {
			neighbors := g.near[v]
			dry := neighbors.minus(wet)
			next[v] = wet[v] || neighbors.size()-dry.size() >= r
		}
		return next
	}
}

// stages visits what is wet at first, and what is wet after each round in which something becomes wet, with the numbers of the rounds.
func stages(wet set, round rule) iter.Seq2[int, set] {
	return func(yield func(int, set) bool) {
		for i := 0; yield(i, wet); i++ {
			next := round(wet)
			if next == wet {
				return
			}
			wet = next
		}
	}
}

// closure is what is wet when nothing becomes wet any more, and the number of the last round.
func closure(wet set, round rule) (set, int) {
	rounds := 0
	for i, stage := range stages(wet, round) {
		wet, rounds = stage, i
	}
	return wet, rounds
}

// Close returns the closure of a set, and the number of rounds in which something becomes wet.
func Close(n int, edges [][2]int, set []int) ([]int, int, api.Errno) {
	g, s, ok := readSet(n, edges, set)
	if !ok {
		return nil, 0, api.ErrArg
	}
	wet, rounds := closure(s, g.force)
	return wet.list(), rounds, api.OK
}

// Rounds returns for each vertex the round in which it becomes wet, 0 if it is in the set, and -1 if it stays dry.
func Rounds(n int, edges [][2]int, set []int) ([]int, api.Errno) {
	g, s, ok := readSet(n, edges, set)
	if !ok {
		return nil, api.ErrArg
	}
	rounds := make([]int, n)
	for v := range rounds {
		rounds[v] = -1
	}
	for i, wet := range stages(s, g.force) {
		for v := range wet.vertices() {
			if rounds[v] < 0 {
				rounds[v] = i
			}
		}
	}
	return rounds, api.OK
}

// Soak returns the closure of a set by the threshold r, and its number of rounds.
func Soak(n int, edges [][2]int, set []int, r int) ([]int, int, api.Errno) {
	g, s, ok := readSet(n, edges, set)
	if !ok || !isThreshold(r) {
		return nil, 0, api.ErrArg
	}
	wet, rounds := closure(s, g.soak(r))
	return wet.list(), rounds, api.OK
}
