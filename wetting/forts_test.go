package wetting_test

import (
	"slices"
	"testing"

	"numnah/api"
	"numnah/wetting"
)

func checkForts(t *testing.T, g graph, want [][]int) {
	t.Helper()
	if l, e := wetting.Forts(g.n, g.edges); e != api.OK || !slices.EqualFunc(l, want, slices.Equal) {
		t.Errorf("Forts(%v) = %v, %d, not %v", g, l, e, want)
	}
}

// checkFort checks the greatest fort outside of a set; want is empty if there is none.
func checkFort(t *testing.T, g graph, set, want []int) {
	t.Helper()
	l, e := wetting.Fort(g.n, g.edges, set)
	if !slices.Equal(l, want) || e != noneIf(len(want) == 0) {
		t.Errorf("Fort(%v, %v) = %v, %d, not %v", g, set, l, e, want)
	}
}

// checkShelter checks the greatest shelter outside of a set; want is empty if there is none.
func checkShelter(t *testing.T, g graph, set []int, r int, want []int) {
	t.Helper()
	l, e := wetting.Shelter(g.n, g.edges, set, r)
	if !slices.Equal(l, want) || e != noneIf(len(want) == 0) {
		t.Errorf("Shelter(%v, %v, %d) = %v, %d, not %v", g, set, r, l, e, want)
	}
}

func noneIf(none bool) api.Errno {
	if none {
		return api.ErrNone
	}
	return api.OK
}

// P6.3
func TestFortsByHand(t *testing.T) {
	checkForts(t, empty(1), [][]int{{0}})
	checkForts(t, empty(3), [][]int{{0}, {1}, {2}})
	checkForts(t, path(2), [][]int{{0, 1}})
	checkForts(t, path(3), [][]int{{0, 2}})
	checkForts(t, path(4), [][]int{{0, 1, 3}, {0, 2, 3}})
	checkForts(t, complete(3), [][]int{{0, 1}, {0, 2}, {1, 2}})
	checkForts(t, ring(4), [][]int{{0, 2}, {1, 3}})
	checkForts(t, star(4), [][]int{{1, 2}, {1, 3}, {2, 3}})
	// The longer one comes last, although it is lexicographically smaller.
	checkForts(t, graph{4, [][2]int{{0, 1}, {1, 2}}}, [][]int{{3}, {0, 2}})
	var all [][]int
	for _, p := range pairs(api.MaxPlaces) {
		all = append(all, p[:])
	}
	checkForts(t, complete(api.MaxPlaces), all)
}

// P6.3
func TestGreatestFortsByHand(t *testing.T) {
	checkFort(t, path(4), []int{0}, nil)
	checkFort(t, path(4), []int{1}, []int{0, 2, 3})
	checkFort(t, path(4), []int{1, 2}, nil)
	checkFort(t, complete(3), []int{1}, []int{0, 2})
	checkFort(t, ring(4), []int{0, 2}, []int{1, 3})
	checkFort(t, ring(4), []int{0}, []int{1, 2, 3})
	checkFort(t, ring(4), []int{0, 1}, nil)
	checkFort(t, empty(1), []int{0}, nil)
	checkFort(t, empty(4), []int{1, 2}, []int{0, 3})
	// The middle becomes wet, and two leaves stay dry.
	checkFort(t, star(5), []int{1, 2}, []int{3, 4})
}

// P6.3
func TestGreatestSheltersByHand(t *testing.T) {
	checkShelter(t, path(4), []int{0}, 1, nil)
	checkShelter(t, path(4), []int{0}, 2, []int{1, 2, 3})
	checkShelter(t, path(4), []int{0, 2}, 2, []int{3})
	checkShelter(t, path(4), []int{0, 2, 3}, 2, nil)
	checkShelter(t, ring(4), []int{0, 2}, 2, nil)
	checkShelter(t, ring(4), []int{0, 1}, 2, []int{2, 3})
	checkShelter(t, ring(4), []int{0, 1, 2}, 3, []int{3})
	checkShelter(t, empty(3), []int{1}, 1, []int{0, 2})
	checkShelter(t, empty(1), []int{0}, 6, nil)
	checkShelter(t, star(7), []int{1, 2, 3, 4, 5}, 6, []int{0, 6})
	checkShelter(t, star(7), []int{1, 2, 3, 4, 5, 6}, 6, nil)
}

// P6.3
func TestIsFortByHand(t *testing.T) {
	for _, x := range []struct {
		g    graph
		set  []int
		want bool
	}{
		{path(3), []int{0, 2}, true},
		{path(3), []int{0, 1, 2}, true},
		{path(3), []int{0}, false},
		{path(3), []int{1}, false},
		{path(3), []int{0, 1}, false},
		{path(4), []int{0, 3}, false},
		{path(4), []int{0, 1, 3}, true},
		{empty(2), []int{1}, true},
		{complete(2), []int{0, 1}, true},
		{complete(2), []int{1}, false},
		{ring(4), []int{0, 2}, true},
		{ring(4), []int{0, 1, 2}, true},
		{ring(5), []int{0, 2}, false},
	} {
		if is, e := wetting.IsFort(x.g.n, x.g.edges, x.set); e != api.OK || is != x.want {
			t.Errorf("IsFort(%v, %v) = %v, %d", x.g, x.set, is, e)
		}
	}
}

// checkAllForts checks the forts and shelters of a graph, the greatest ones outside of some sets, and which of these sets are forts.
func checkAllForts(t *testing.T, g graph, sets []bits) {
	t.Helper()
	forts := g.forts()
	isLeast := map[bits]bool{}
	for _, s := range least(forts) {
		isLeast[s] = true
	}
	checkForts(t, g, listsOf(choose(g.inOrder(), func(s bits) bool { return isLeast[s] })))
	for _, s := range sets {
		checkFort(t, g, s.list(), greatest(forts, s).list())
		if is, e := wetting.IsFort(g.n, g.edges, s.list()); e != api.OK || is != g.isFort(s) {
			t.Errorf("IsFort(%v, %v) = %v, %d", g, s.list(), is, e)
		}
	}
	for r := 1; r <= api.MaxThreshold; r++ {
		shelters := g.shelters(r)
		for _, s := range sets {
			checkShelter(t, g, s.list(), r, greatest(shelters, s).list())
		}
	}
}

// P6.3, P3: all graphs of up to 5 vertices.
func TestFortsOfSmallGraphs(t *testing.T) {
	for _, g := range smallGraphs(5) {
		checkAllForts(t, g, g.sets())
	}
}

// P6.3, P3
func TestFortsOfGreatGraphs(t *testing.T) {
	for i, g := range slices.Concat(named(), someGraphs(3, 60)) {
		checkAllForts(t, g, someSets(int64(i), g, 10))
	}
}

// P6.3: there is no fort outside of a set exactly if it is forcing.
func TestForcingSetsHaveNoForts(t *testing.T) {
	for i, g := range slices.Concat(smallGraphs(4), named(), someGraphs(4, 100)) {
		for _, s := range someSets(int64(i), g, 50) {
			wet, _, _ := wetting.Close(g.n, g.edges, s.list())
			if _, e := wetting.Fort(g.n, g.edges, s.list()); e != noneIf(len(wet) == g.n) {
				t.Errorf("Fort(%v, %v): %d", g, s.list(), e)
			}
		}
	}
}
