package wetting

import (
	"iter"

	"numnah/api"
)

// set tells which vertices are in it.
type set [api.MaxPlaces]bool

func (s set) with(v int) set {
	s[v] = true
	return s
}

func (s set) without(v int) set {
	s[v] = false
	return s
}

// minus are the vertices that are not in the other set.
func (s set) minus(other set) set {
	for v, in := range other {
		s[v] = s[v] && !in
	}
	return s
}

// vertices visits the vertices in ascending order.
func (s set) vertices() iter.Seq[int] {
	return func(yield func(int) bool) {
		for v, in := range s {
			if in && !yield(v) {
				return
			}
		}
	}
}

func (s set) list() []int {
	var list []int
	for v := range s.vertices() {
		list = append(list, v)
	}
	return list
}

func (s set) size() int {
	size := 0
	for range s.vertices() {
		size++
	}
	return size
}

// sets visits all sets of vertices but the empty one, which is no fort and wets nothing; smaller ones first, and those of one size lexicographically.
func (g *graph) sets() iter.Seq[set] {
	return func(yield func(set) bool) {
		for i := range g.n {
			if !g.fill(set{}, 0, i+1, yield) {
				return
			}
		}
	}
}

// fill visits the set with each choice of so many further vertices, which begin with one, and reports whether to go on.
func (g *graph) fill(s set, from, more int, yield func(set) bool) bool {
	if more == 0 {
		return yield(s)
	}
	for v := from; v < g.n; v++ {
		if !g.fill(s.with(v), v+1, more-1, yield) {
			return false
		}
	}
	return true
}
