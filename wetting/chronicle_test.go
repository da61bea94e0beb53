package wetting_test

import (
	"math"
	"math/rand"
	"slices"
	"testing"

	"numnah/api"
	"numnah/wetting"
)

// checkChronicle checks that a chronicle of a set is one, and that it wets all that can be wetted.
func checkChronicle(t *testing.T, g graph, set bits) {
	t.Helper()
	chronicle, e := wetting.Chronicle(g.n, g.edges, set.list())
	is, wet := g.isChronicle(set, chronicle)
	if e != api.OK || !is || len(g.options(wet)) > 0 {
		t.Errorf("Chronicle(%v, %v) = %v, %d", g, set.list(), chronicle, e)
	}
	for i := range len(chronicle) + 1 {
		if e := wetting.Check(g.n, g.edges, set.list(), chronicle[:i]); e != api.OK {
			t.Errorf("Check(%v, %v, %v): %d", g, set.list(), chronicle[:i], e)
		}
	}
}

// P6.4, P3: all graphs of up to 5 vertices.
func TestChroniclesOfSmallGraphs(t *testing.T) {
	for _, g := range smallGraphs(5) {
		for _, s := range g.sets() {
			checkChronicle(t, g, s)
		}
	}
}

// P6.4, P3
func TestChroniclesOfGreatGraphs(t *testing.T) {
	for i, g := range slices.Concat(named(), someGraphs(5, 200)) {
		for _, s := range someSets(int64(i), g, 20) {
			checkChronicle(t, g, s)
		}
	}
}

// P6.4
func TestCheckByHand(t *testing.T) {
	for _, x := range []struct {
		g         graph
		set       []int
		chronicle [][2]int
		want      api.Errno
	}{
		{path(4), []int{0}, nil, api.OK},
		{path(4), []int{0}, [][2]int{}, api.OK},
		{path(4), []int{0}, [][2]int{{0, 1}}, api.OK},
		{path(4), []int{0}, [][2]int{{0, 1}, {1, 2}, {2, 3}}, api.OK},
		{path(4), []int{1, 2}, [][2]int{{2, 3}, {1, 0}}, api.OK},
		{path(4), []int{1, 2}, [][2]int{{1, 0}, {2, 3}}, api.OK},
		// The vertex is dry.
		{path(4), []int{0}, [][2]int{{1, 2}}, api.ErrAnswer},
		{path(4), []int{0}, [][2]int{{3, 2}}, api.ErrAnswer},
		{path(4), []int{0}, [][2]int{{1, 2}, {0, 1}}, api.ErrAnswer},
		// It has two dry neighbors.
		{path(4), []int{1}, [][2]int{{1, 0}}, api.ErrAnswer},
		{path(4), []int{1}, [][2]int{{1, 2}}, api.ErrAnswer},
		// It has none.
		{path(4), []int{0}, [][2]int{{0, 1}, {0, 1}}, api.ErrAnswer},
		{path(4), []int{0, 1}, [][2]int{{0, 1}}, api.ErrAnswer},
		{path(4), []int{0, 1}, [][2]int{{0, 3}}, api.ErrAnswer},
		{empty(2), []int{0}, [][2]int{{0, 1}}, api.ErrAnswer},
		// It has another one.
		{path(4), []int{0}, [][2]int{{0, 2}}, api.ErrAnswer},
		{path(4), []int{0}, [][2]int{{0, 0}}, api.ErrAnswer},
		{path(4), []int{0}, [][2]int{{0, 1}, {1, 0}}, api.ErrAnswer},
		{path(4), []int{0}, [][2]int{{0, 1}, {1, 3}}, api.ErrAnswer},
		// Numbers that are no vertices.
		{path(4), []int{0}, [][2]int{{0, 4}}, api.ErrAnswer},
		{path(4), []int{0}, [][2]int{{4, 1}}, api.ErrAnswer},
		{path(4), []int{0}, [][2]int{{-1, 1}}, api.ErrAnswer},
		{path(4), []int{0}, [][2]int{{0, -1}}, api.ErrAnswer},
		// It has no dry neighbor, and -1 is no vertex that stands for this.
		{path(4), []int{0, 1}, [][2]int{{0, -1}}, api.ErrAnswer},
		{path(4), []int{0}, [][2]int{{0, 1}, {1, 2}, {2, 3}, {3, 4}}, api.ErrAnswer},
		{path(4), []int{0}, [][2]int{{0, 1}, {12, 13}}, api.ErrAnswer},
		{path(4), []int{0}, [][2]int{{math.MinInt, math.MaxInt}}, api.ErrAnswer},
		{path(4), []int{0}, make([][2]int, 100000), api.ErrAnswer},
	} {
		if e := wetting.Check(x.g.n, x.g.edges, x.set, x.chronicle); e != x.want {
			t.Errorf("Check(%v, %v, %.100v): %d, not %d", x.g, x.set, x.chronicle, e, x.want)
		}
	}
}

// anyPairs are all pairs of vertices and of the numbers beside them.
func anyPairs(n int) [][2]int {
	var pairs [][2]int
	for u := -1; u <= n; u++ {
		for v := -1; v <= n; v++ {
			pairs = append(pairs, [2]int{u, v})
		}
	}
	return pairs
}

func checkCheck(t *testing.T, g graph, set bits, chronicle [][2]int) {
	t.Helper()
	want := api.ErrAnswer
	if is, _ := g.isChronicle(set, chronicle); is {
		want = api.OK
	}
	if e := wetting.Check(g.n, g.edges, set.list(), chronicle); e != want {
		t.Errorf("Check(%v, %v, %v): %d, not %d", g, set.list(), chronicle, e, want)
	}
}

// P6.4: all lists of up to two pairs for all graphs of up to 3 vertices, and of one pair for those of 4.
func TestCheckOfShortChronicles(t *testing.T) {
	for _, g := range smallGraphs(4) {
		for _, s := range g.sets() {
			for _, p := range anyPairs(g.n) {
				checkCheck(t, g, s, [][2]int{p})
				if g.n == 4 {
					continue
				}
				for _, q := range anyPairs(g.n) {
					checkCheck(t, g, s, [][2]int{p, q})
				}
			}
		}
	}
}

// P6.4, P3: chronicles in any order, and such with one pair that is changed, left out, said twice or swapped with another one.
func TestCheckOfLongChronicles(t *testing.T) {
	random := rand.New(rand.NewSource(6))
	for i, g := range slices.Concat(named(), someGraphs(6, 100)) {
		forcing := choose(g.sets(), func(s bits) bool { return len(g.options(s)) > 0 })
		for range min(20, len(forcing)) {
			s := forcing[random.Intn(len(forcing))]
			chronicle := g.chronicle(s, random.Intn)
			if e := wetting.Check(g.n, g.edges, s.list(), chronicle); e != api.OK {
				t.Errorf("%d: Check(%v, %v, %v): %d", i, g, s.list(), chronicle, e)
			}
			a, b := random.Intn(len(chronicle)), random.Intn(len(chronicle))
			changed := slices.Clone(chronicle)
			changed[a][random.Intn(2)] = random.Intn(g.n+2) - 1
			checkCheck(t, g, s, changed)
			checkCheck(t, g, s, slices.Delete(slices.Clone(chronicle), a, a+1))
			checkCheck(t, g, s, slices.Insert(slices.Clone(chronicle), b, chronicle[a]))
			swapped := slices.Clone(chronicle)
			swapped[a], swapped[b] = swapped[b], swapped[a]
			checkCheck(t, g, s, swapped)
		}
	}
}

// P6.4
func TestChainsByHand(t *testing.T) {
	for _, x := range []struct {
		g    graph
		set  []int
		want [][]int
	}{
		{path(4), []int{0}, [][]int{{0, 1, 2, 3}}},
		{path(4), []int{3}, [][]int{{3, 2, 1, 0}}},
		{path(4), []int{1, 2}, [][]int{{1, 0}, {2, 3}}},
		{path(4), []int{0, 3}, [][]int{{0, 1, 2}, {3}}},
		{path(4), []int{0, 1, 2, 3}, [][]int{{0}, {1}, {2}, {3}}},
		{empty(1), []int{0}, [][]int{{0}}},
		{empty(2), []int{0, 1}, [][]int{{0}, {1}}},
		{complete(3), []int{0, 1}, [][]int{{0, 2}, {1}}},
		{complete(3), []int{1, 2}, [][]int{{1, 0}, {2}}},
		// 0 wets 5 at first, and 3 wets 4 before 5 can.
		{ring(6), []int{0, 1}, [][]int{{0, 5}, {1, 2, 3, 4}}},
		// 2 wets 0, which is then the smallest one, and wets 1 before 3 can.
		{graph{4, [][2]int{{0, 1}, {0, 2}, {1, 3}}}, []int{2, 3}, [][]int{{2, 0, 1}, {3}}},
		// 2 wets 5 before 4 can.
		{grid(2, 3), []int{0, 3}, [][]int{{0, 1, 2, 5}, {3, 4}}},
		{star(5), []int{1, 2, 3}, [][]int{{1, 0, 4}, {2}, {3}}},
	} {
		if l, e := wetting.Chains(x.g.n, x.g.edges, x.set); e != api.OK || !slices.EqualFunc(l, x.want, slices.Equal) {
			t.Errorf("Chains(%v, %v) = %v, %d, not %v", x.g, x.set, l, e, x.want)
		}
	}
}

// checkChains checks the chains of a set, forcing or not.
func checkChains(t *testing.T, g graph, set bits) {
	t.Helper()
	var want [][]int
	if g.wetsAll(set, g.forcing()) {
		want = g.chains(set)
	}
	if l, e := wetting.Chains(g.n, g.edges, set.list()); e != noneIf(want == nil) || !slices.EqualFunc(l, want, slices.Equal) {
		t.Errorf("Chains(%v, %v) = %v, %d, not %v", g, set.list(), l, e, want)
	}
}

// P6.4: all graphs of up to 5 vertices.
func TestChainsOfSmallGraphs(t *testing.T) {
	for _, g := range smallGraphs(5) {
		for _, s := range g.sets() {
			checkChains(t, g, s)
		}
	}
}

// P6.4
func TestChainsOfGreatGraphs(t *testing.T) {
	for i, g := range slices.Concat(named(), someGraphs(7, 200)) {
		forcing := g.forcing()
		for _, s := range someSets(int64(i), g, 20) {
			checkChains(t, g, s)
		}
		for _, s := range someSets(int64(i), g, 200) {
			if g.wetsAll(s, forcing) {
				checkChains(t, g, s)
			}
		}
	}
}
