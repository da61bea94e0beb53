package wetting_test

import (
	"slices"
	"testing"

	"numnah/api"
	"numnah/wetting"
)

// forEmptySets calls a test with some graphs and both forms of the empty set.
func forEmptySets(test func(g graph, set []int)) {
	for _, g := range slices.Concat(smallGraphs(4), named()) {
		test(g, nil)
		test(g, []int{})
	}
}

// P6.1: nothing ever becomes wet.
func TestClosuresOfTheEmptySet(t *testing.T) {
	forEmptySets(func(g graph, set []int) {
		checkClose(t, g, set, slices.Repeat([]int{-1}, g.n))
		for r := 1; r <= api.MaxThreshold; r++ {
			checkSoak(t, g, set, r, nil, 0)
		}
	})
}

// P6.3: all vertices are the greatest fort and the greatest shelter.
func TestWhatStaysDryWithTheEmptySet(t *testing.T) {
	forEmptySets(func(g graph, set []int) {
		checkFort(t, g, set, upTo(0, g.n))
		for r := 1; r <= api.MaxThreshold; r++ {
			checkShelter(t, g, set, r, upTo(0, g.n))
		}
	})
}

// P6.3
func TestTheEmptySetIsNoFort(t *testing.T) {
	forEmptySets(func(g graph, set []int) {
		if is, e := wetting.IsFort(g.n, g.edges, set); is || e != api.OK {
			t.Errorf("IsFort(%v, %v) = %v, %d", g, set, is, e)
		}
	})
}

// P6.4, P3: only the empty chronicle is one of the empty set.
func TestChroniclesOfTheEmptySet(t *testing.T) {
	forEmptySets(func(g graph, set []int) {
		if l, e := wetting.Chronicle(g.n, g.edges, set); len(l) != 0 || e != api.OK {
			t.Errorf("Chronicle(%v, %v) = %v, %d", g, set, l, e)
		}
		for _, chronicle := range [][][2]int{nil, {}} {
			if e := wetting.Check(g.n, g.edges, set, chronicle); e != api.OK {
				t.Errorf("Check(%v, %v, %v): %d", g, set, chronicle, e)
			}
		}
		for _, p := range anyPairs(g.n) {
			if e := wetting.Check(g.n, g.edges, set, [][2]int{p}); e != api.ErrAnswer {
				t.Errorf("Check(%v, %v, [%v]): %d", g, set, p, e)
			}
		}
	})
}

// P6.4: the empty set is not forcing.
func TestTheEmptySetHasNoChains(t *testing.T) {
	forEmptySets(func(g graph, set []int) {
		if l, e := wetting.Chains(g.n, g.edges, set); len(l) != 0 || e != api.ErrNone {
			t.Errorf("Chains(%v, %v) = %v, %d", g, set, l, e)
		}
	})
}
