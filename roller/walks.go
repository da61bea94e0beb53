package roller

import "numnah/api"

// walk is the lexicographically smallest walk of a length, or nil if there is none.
func (m matrix) walk(from, to, length int) []int {
	steps := m.steps()
	starts := make([]set, length+1) // where walks to the end start, by their lengths
	starts[0][to] = true
	for k := range length {
		starts[k+1] = steps.into(starts[k])
	}
	if !starts[length][from] {
		return nil
	}
	walk := make([]int, length+1)
	walk[0] = from
	for k := range length {
		next := 0
		for !steps[walk[k]][next] || !starts[length-k-1][next] {
			next++
		}
		walk[k+1] = next
	}
	return walk
}

// Walk returns the lexicographically smallest walk of length k from i to j.
func Walk(m [][]int, i, j, k int) ([]int, api.Errno) {
	a, ok := readMatrix(m)
	if !ok || !a.has(i) || !a.has(j) || k < 0 || k > api.MaxWalk {
		return nil, api.ErrArg
	}
	walk := a.walk(i, j, k)
	if walk == nil {
		return nil, api.ErrNone
	}
	return walk, api.OK
}

// Cycle returns the lexicographically smallest one of the shortest walks of length at least 1 from i to itself.
func Cycle(m [][]int, i int) ([]int, api.Errno) {
	a, ok := readMatrix(m)
	if !ok || !a.has(i) {
		return nil, api.ErrArg
	}
	// A shortest one meets no number twice, but for i.
	for k := range a.size {
		if walk := a.walk(i, i, k+1); walk != nil {
			return walk, api.OK
		}
	}
	return nil, api.ErrNone
}

// Layers returns for each number of the class of i the remainder of the lengths of all walks from i to it modulo the period, and -1 for each other one.
func Layers(m [][]int, i int) ([]int, api.Errno) {
	c, ok := readClassed(m)
	if !ok || !c.has(i) {
		return nil, api.ErrArg
	}
	period := c.period(i)
	if period == 0 {
		return nil, api.ErrNone
	}
	depths := c.depths(i)
	layers := make([]int, c.size)
	for j := range c.size {
		layers[j] = -1
		if depths[j] >= 0 {
			layers[j] = depths[j] % period
		}
	}
	return layers, api.OK
}
