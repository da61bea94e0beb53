package wetting_test

import (
	"slices"
	"testing"

	"numnah/api"
	"numnah/wetting"
)

// upTo is the list of the numbers from the first one to before the end.
func upTo(from, end int) []int {
	var list []int
	for v := from; v < end; v++ {
		list = append(list, v)
	}
	return list
}

func checkLeast(t *testing.T, g graph, want []int) {
	t.Helper()
	if l, e := wetting.Least(g.n, g.edges); e != api.OK || !slices.Equal(l, want) {
		t.Errorf("Least(%v) = %v, %d, not %v", g, l, e, want)
	}
}

func checkFewest(t *testing.T, g graph, r int, want []int) {
	t.Helper()
	if l, e := wetting.Fewest(g.n, g.edges, r); e != api.OK || !slices.Equal(l, want) {
		t.Errorf("Fewest(%v, %d) = %v, %d, not %v", g, r, l, e, want)
	}
}

func checkShared(t *testing.T, g graph, r int, want bool) {
	t.Helper()
	if shared, e := wetting.Shared(g.n, g.edges, r); e != api.OK || shared != want {
		t.Errorf("Shared(%v, %d) = %v, %d", g, r, shared, e)
	}
}

// P6.2, P4
func TestLeastByHand(t *testing.T) {
	checkLeast(t, empty(1), []int{0})
	checkLeast(t, ring(4), []int{0, 1})
	// The middle of the path is 0, so that its smallest end is 1.
	checkLeast(t, graph{3, [][2]int{{0, 1}, {0, 2}}}, []int{1})
	// The middles of the path are 0 and 1.
	checkLeast(t, graph{4, [][2]int{{0, 1}, {0, 3}, {1, 2}}}, []int{2})
	// Two paths, 0 1 and 2 3.
	checkLeast(t, graph{4, [][2]int{{0, 1}, {2, 3}}}, []int{0, 2})
	for n := 3; n <= api.MaxPlaces; n++ {
		checkLeast(t, path(n), []int{0})
		checkLeast(t, ring(n), []int{0, 1})
		checkLeast(t, complete(n), upTo(0, n-1))
		checkLeast(t, empty(n), upTo(0, n))
		checkLeast(t, star(n), upTo(1, max(2, n-1)))
	}
}

// P6.2, P4
func TestFewestByHand(t *testing.T) {
	checkFewest(t, ring(4), 2, []int{0, 2})
	checkFewest(t, empty(1), 1, []int{0})
	checkFewest(t, empty(1), 6, []int{0})
	// 0 is alone, and 1 to 3 are a path.
	checkFewest(t, graph{4, [][2]int{{1, 2}, {2, 3}}}, 1, []int{0, 1})
	for n := 3; n <= api.MaxPlaces; n++ {
		checkFewest(t, path(n), 1, []int{0})
		checkFewest(t, ring(n), 3, upTo(0, n))
		for r := 1; r <= api.MaxThreshold; r++ {
			checkFewest(t, empty(n), r, upTo(0, n))
			checkFewest(t, complete(n), r, upTo(0, min(n, r)))
		}
		// The leaves have one neighbor only; the middle has n - 1.
		for r := 2; r < min(n, api.MaxThreshold+1); r++ {
			checkFewest(t, star(n), r, upTo(1, n))
		}
	}
}

// P6.2: sizes that are known.
func TestKnownSizes(t *testing.T) {
	for _, x := range []struct {
		g    graph
		size int
	}{{cube(), 4}, {petersen(), 5}, {grid(2, 5), 2}, {grid(3, 3), 3}, {grid(3, 4), 3}, {between(2, 3), 3}, {between(4, 4), 6}, {between(6, 6), 10}, {wheel(7), 3}, {wheel(12), 3}} {
		if l, e := wetting.Least(x.g.n, x.g.edges); e != api.OK || len(l) != x.size {
			t.Errorf("Least(%v) = %v, %d, which are not %d", x.g, l, e, x.size)
		}
	}
	for _, x := range []struct {
		g       graph
		r, size int
	}{{cube(), 2, 3}, {cube(), 3, 4}, {petersen(), 1, 1}, {petersen(), 2, 3}, {petersen(), 3, 6}, {petersen(), 4, 10}, {grid(3, 3), 2, 3}, {grid(3, 4), 2, 4}, {ring(12), 2, 6}, {ring(11), 2, 6}, {between(6, 6), 6, 6}} {
		if l, e := wetting.Fewest(x.g.n, x.g.edges, x.r); e != api.OK || len(l) != x.size {
			t.Errorf("Fewest(%v, %d) = %v, %d, which are not %d", x.g, x.r, l, e, x.size)
		}
	}
}

// P6.5
func TestSharedByHand(t *testing.T) {
	for _, x := range []struct {
		g    graph
		r    int
		want bool
	}{
		{path(4), 1, true},
		// The lexicographically smallest one is 0, which is not forcing, but 1 is.
		{graph{3, [][2]int{{0, 1}, {0, 2}}}, 1, true},
		// 0 1 is soaking and forcing, but not one of the smallest soaking sets.
		{ring(5), 1, false},
		{ring(3), 1, false},
		{ring(3), 2, true},
		{ring(4), 2, false},
		{ring(4), 3, true},
		{empty(5), 1, true},
		{empty(1), 6, true},
		{star(5), 1, false},
		{star(5), 2, true},
		{complete(5), 3, false},
		{complete(5), 4, true},
		{complete(5), 6, true},
		{complete(12), 6, false},
	} {
		checkShared(t, x.g, x.r, x.want)
	}
}

// checkAllLeast checks the smallest sets by all rules, and which are shared.
func checkAllLeast(t *testing.T, g graph) {
	t.Helper()
	forcing := g.forcing()
	checkLeast(t, g, g.smallest(forcing)[0].list())
	for r := 1; r <= api.MaxThreshold; r++ {
		smallest := g.smallest(g.soaking(r))
		checkFewest(t, g, r, smallest[0].list())
		checkShared(t, g, r, slices.ContainsFunc(smallest, func(s bits) bool { return g.wetsAll(s, forcing) }))
	}
}

// P6.2, P6.5, P4: all graphs of up to 5 vertices.
func TestLeastOfSmallGraphs(t *testing.T) {
	for _, g := range smallGraphs(5) {
		checkAllLeast(t, g)
	}
}

// P6.2, P6.5, P4
func TestLeastOfGreatGraphs(t *testing.T) {
	for _, g := range slices.Concat(named(), someGraphs(2, 40)) {
		checkAllLeast(t, g)
	}
}
