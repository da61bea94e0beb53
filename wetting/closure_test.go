package wetting_test

import (
	"slices"
	"testing"

	"numnah/api"
	"numnah/wetting"
)

// checkClose checks Close and Rounds for a set.
func checkClose(t *testing.T, g graph, set, rounds []int) {
	t.Helper()
	var wet []int
	for v, i := range rounds {
		if i >= 0 {
			wet = append(wet, v)
		}
	}
	if l, n, e := wetting.Close(g.n, g.edges, set); e != api.OK || n != lastRound(rounds) || !slices.Equal(l, wet) {
		t.Errorf("Close(%v, %v) = %v, %d, %d, not %v, %d", g, set, l, n, e, wet, lastRound(rounds))
	}
	if l, e := wetting.Rounds(g.n, g.edges, set); e != api.OK || !slices.Equal(l, rounds) {
		t.Errorf("Rounds(%v, %v) = %v, %d, not %v", g, set, l, e, rounds)
	}
}

// checkSoak checks Soak for a set.
func checkSoak(t *testing.T, g graph, set []int, r int, wet []int, rounds int) {
	t.Helper()
	if l, n, e := wetting.Soak(g.n, g.edges, set, r); e != api.OK || n != rounds || !slices.Equal(l, wet) {
		t.Errorf("Soak(%v, %v, %d) = %v, %d, %d, not %v, %d", g, set, r, l, n, e, wet, rounds)
	}
}

// P6.1
func TestClosuresByHand(t *testing.T) {
	for _, x := range []struct {
		g           graph
		set, rounds []int
	}{
		{path(4), []int{0}, []int{0, 1, 2, 3}},
		{path(4), []int{1}, []int{-1, 0, -1, -1}},
		{path(4), []int{1, 2}, []int{1, 0, 0, 1}},
		{path(4), []int{0, 3}, []int{0, 1, 1, 0}},
		{path(4), []int{0, 1, 2, 3}, []int{0, 0, 0, 0}},
		{path(12), []int{11}, []int{11, 10, 9, 8, 7, 6, 5, 4, 3, 2, 1, 0}},
		{empty(1), []int{0}, []int{0}},
		{empty(3), []int{1}, []int{-1, 0, -1}},
		{complete(2), []int{1}, []int{1, 0}},
		{complete(3), []int{0, 1}, []int{0, 0, 1}},
		{complete(3), []int{2}, []int{-1, -1, 0}},
		{ring(6), []int{0, 1}, []int{0, 0, 1, 2, 2, 1}},
		// 0 and 2 have two dry neighbors each.
		{ring(6), []int{0, 2}, []int{0, -1, 0, -1, -1, -1}},
		{star(5), []int{1}, []int{1, 0, -1, -1, -1}},
		{star(5), []int{1, 3, 4}, []int{1, 0, 2, 0, 0}},
		// 0 waits for the round in which 3 wets 1.
		{graph{4, [][2]int{{0, 1}, {0, 2}, {1, 3}}}, []int{0, 3}, []int{0, 1, 2, 0}},
		// 0 and 1 wet 2 in the same round.
		{graph{3, [][2]int{{0, 2}, {1, 2}}}, []int{0, 1}, []int{0, 0, 1}},
		// The order of the edges doesn't matter.
		{graph{4, [][2]int{{2, 3}, {0, 1}, {1, 2}}}, []int{0}, []int{0, 1, 2, 3}},
		{grid(3, 4), []int{0, 4, 8}, []int{0, 1, 2, 3, 0, 1, 2, 3, 0, 1, 2, 3}},
	} {
		checkClose(t, x.g, x.set, x.rounds)
	}
}

// P6.1
func TestSoaksByHand(t *testing.T) {
	for _, x := range []struct {
		g      graph
		set    []int
		r      int
		wet    []int
		rounds int
	}{
		{path(4), []int{1}, 1, []int{0, 1, 2, 3}, 2},
		{path(4), []int{0}, 1, []int{0, 1, 2, 3}, 3},
		{path(4), []int{0, 3}, 2, []int{0, 3}, 0},
		{path(4), []int{0, 2}, 2, []int{0, 1, 2}, 1},
		{path(4), []int{0, 2, 3}, 2, []int{0, 1, 2, 3}, 1},
		{path(12), []int{0}, 1, []int{0, 1, 2, 3, 4, 5, 6, 7, 8, 9, 10, 11}, 11},
		{empty(1), []int{0}, 6, []int{0}, 0},
		{empty(3), []int{1}, 1, []int{1}, 0},
		{ring(4), []int{0, 2}, 2, []int{0, 1, 2, 3}, 1},
		{ring(4), []int{0, 1}, 2, []int{0, 1}, 0},
		{star(7), []int{1, 2, 3, 4, 5, 6}, 6, []int{0, 1, 2, 3, 4, 5, 6}, 1},
		{star(7), []int{1, 2, 3, 4, 5}, 6, []int{1, 2, 3, 4, 5}, 0},
		{star(7), []int{3}, 1, []int{0, 1, 2, 3, 4, 5, 6}, 2},
		{grid(3, 3), []int{0, 4, 8}, 2, []int{0, 1, 2, 3, 4, 5, 6, 7, 8}, 2},
		{complete(8), []int{0, 1, 2, 3, 4, 5}, 6, []int{0, 1, 2, 3, 4, 5, 6, 7}, 1},
		// 2 has two wet neighbors, 3 one until 2 is wet.
		{graph{4, [][2]int{{0, 2}, {1, 2}, {0, 3}, {2, 3}}}, []int{0, 1}, 2, []int{0, 1, 2, 3}, 2},
	} {
		checkSoak(t, x.g, x.set, x.r, x.wet, x.rounds)
	}
}

// checkClosures checks the closures of sets by all rules.
func checkClosures(t *testing.T, g graph, sets []bits) {
	t.Helper()
	forcing := g.forcing()
	for _, s := range sets {
		checkClose(t, g, s.list(), g.rounds(s, forcing))
	}
	for r := 1; r <= api.MaxThreshold; r++ {
		soaking := g.soaking(r)
		for _, s := range sets {
			wet, rounds := g.closure(s, soaking)
			checkSoak(t, g, s.list(), r, wet.list(), rounds)
		}
	}
}

// P6.1: all graphs of up to 5 vertices.
func TestClosuresOfSmallGraphs(t *testing.T) {
	for _, g := range smallGraphs(5) {
		checkClosures(t, g, g.sets())
	}
}

// P6.1
func TestClosuresOfGreatGraphs(t *testing.T) {
	for i, g := range slices.Concat(named(), someGraphs(1, 300)) {
		checkClosures(t, g, someSets(int64(i), g, 60))
	}
}
