package roller_test

import (
	"math"
	"slices"
	"testing"

	"numnah/api"
	"numnah/roller"
)

// P2.2
func TestWalksByHand(t *testing.T) {
	golden := [][]int{{0, 1}, {1, 1}}
	for _, x := range []struct {
		m       [][]int
		i, j, k int
		walk    []int
		err     api.Errno
	}{
		{golden, 0, 0, 0, []int{0}, api.OK},
		{golden, 0, 1, 0, nil, api.ErrNone},
		{golden, 0, 0, 1, nil, api.ErrNone},
		{golden, 0, 1, 1, []int{0, 1}, api.OK},
		{golden, 0, 1, 2, []int{0, 1, 1}, api.OK},
		{golden, 1, 1, 2, []int{1, 0, 1}, api.OK},
		{golden, 1, 1, 3, []int{1, 0, 1, 1}, api.OK},
		{golden, 0, 0, 3, []int{0, 1, 1, 0}, api.OK},
		{[][]int{{0, 1}, {1, 0}}, 0, 1, 4, nil, api.ErrNone},
		{[][]int{{0, 1}, {1, 0}}, 0, 1, 5, []int{0, 1, 0, 1, 0, 1}, api.OK},
		{[][]int{{0}}, 0, 0, 0, []int{0}, api.OK},
		{[][]int{{0}}, 0, 0, 1, nil, api.ErrNone},
		{[][]int{{0}}, 0, 0, 100, nil, api.ErrNone},
		{[][]int{{7}}, 0, 0, 100, make([]int, 101), api.OK},
		// 1 is smaller than 2, but leads nowhere.
		{[][]int{{0, 1, 1, 0}, {0, 0, 0, 0}, {0, 0, 0, 1}, {0, 0, 0, 0}}, 0, 3, 2, []int{0, 2, 3}, api.OK},
	} {
		if l, e := roller.Walk(x.m, x.i, x.j, x.k); e != x.err || !slices.Equal(l, x.walk) {
			t.Errorf("Walk(%v, %d, %d, %d) = %v, %d", x.m, x.i, x.j, x.k, l, e)
		}
	}
}

// P2.2
func TestWalksAreSmallest(t *testing.T) {
	for _, m := range slices.Concat(allMatrices(2, 2), allMatrices(3, 2), someMatrices(4, 30), someMatrices(5, 10), someMatrices(6, 5)) {
		for k := range 8 - len(m) {
			for i := range m {
				for j := range m {
					walk := smallestWalk(m, i, j, k)
					l, e := roller.Walk(m, i, j, k)
					if (walk == nil) != (e == api.ErrNone) || (walk != nil) != (e == api.OK) || !slices.Equal(l, walk) {
						t.Errorf("Walk(%v, %d, %d, %d) = %v, %d", m, i, j, k, l, e)
					}
				}
			}
		}
	}
}

// P2.2
func TestLongWalks(t *testing.T) {
	list := sparse()
	for size := 2; size <= api.MaxRollers; size++ {
		list = append(list, someMatrices(size, 8)...)
	}
	for _, m := range list {
		walks := walkable(m, api.MaxWalk+1)
		for _, k := range []int{1, 2, 7, 8, 9, 49, 50, 99, 100} {
			for i := range m {
				for j := range m {
					l, e := roller.Walk(m, i, j, k)
					if !walks[k][i][j] && (e != api.ErrNone || len(l) != 0) {
						t.Errorf("Walk(%v, %d, %d, %d) = %v, %d", m, i, j, k, l, e)
					}
					if walks[k][i][j] && (e != api.OK || !isWalk(m, l, i, j, k) || !isSmallest(m, walks, l)) {
						t.Errorf("Walk(%v, %d, %d, %d) = %v, %d", m, i, j, k, l, e)
					}
				}
			}
		}
	}
}

// isSmallest reports whether no number of a walk could be smaller.
func isSmallest(m [][]int, walks [][][]bool, walk []int) bool {
	last := len(walk) - 1
	for x := range last {
		for other := range walk[x+1] {
			if m[walk[x]][other] > 0 && walks[last-x-1][other][walk[last]] {
				return false
			}
		}
	}
	return true
}

// P2.2
func TestWalkErrors(t *testing.T) {
	m := [][]int{{0, 1}, {0, 0}}
	for _, x := range []struct{ i, j, k int }{
		{-1, 0, 1}, {2, 0, 1}, {0, -1, 1}, {0, 2, 1}, {0, 1, -1}, {0, 1, 101}, {8, 8, 1000},
		{math.MinInt, 0, 0}, {math.MaxInt, 0, 0}, {0, math.MinInt, 0}, {0, math.MaxInt, 0}, {0, 0, math.MinInt}, {0, 0, math.MaxInt},
		// There is no walk either, but ErrArg comes first.
		{1, 0, 101}, {1, 2, 5}, {2, 1, 5}, {1, 0, -1},
	} {
		if l, e := roller.Walk(m, x.i, x.j, x.k); e != api.ErrArg || len(l) != 0 {
			t.Errorf("Walk(%v, %d, %d, %d) = %v, %d", m, x.i, x.j, x.k, l, e)
		}
	}
	if l, e := roller.Walk(m, 1, 0, 100); e != api.ErrNone || len(l) != 0 {
		t.Errorf("Walk = %v, %d", l, e)
	}
}

// P2.2
func TestCycles(t *testing.T) {
	for _, m := range slices.Concat(allMatrices(1, 3), allMatrices(2, 2), allMatrices(3, 2), someMatrices(4, 60), someMatrices(5, 30), someMatrices(6, 15)) {
		for i := range m {
			var cycle []int
			for k := 1; k <= len(m) && cycle == nil; k++ {
				cycle = smallestWalk(m, i, i, k)
			}
			l, e := roller.Cycle(m, i)
			if (cycle == nil) != (e == api.ErrNone) || (cycle != nil) != (e == api.OK) || !slices.Equal(l, cycle) {
				t.Errorf("Cycle(%v, %d) = %v, %d, not %v", m, i, l, e, cycle)
			}
		}
	}
}

// P2.2
func TestGreatCycles(t *testing.T) {
	for _, m := range slices.Concat(sparse(), someMatrices(7, 60), someMatrices(8, 60)) {
		walks := walkable(m, manySteps)
		for i := range m {
			shortest := slices.IndexFunc(walks[1:], func(w [][]bool) bool { return w[i][i] }) + 1
			l, e := roller.Cycle(m, i)
			if shortest == 0 && (e != api.ErrNone || len(l) != 0) {
				t.Errorf("Cycle(%v, %d) = %v, %d", m, i, l, e)
			}
			if shortest > 0 && (e != api.OK || !isWalk(m, l, i, i, shortest) || !isSmallest(m, walks, l)) {
				t.Errorf("Cycle(%v, %d) = %v, %d", m, i, l, e)
			}
		}
	}
}

// P2.2
func TestLayers(t *testing.T) {
	for _, m := range variety() {
		_, smallest := classesOf(m)
		periods, walks := periodsOf(m), walkable(m, manySteps)
		for i := range m {
			l, e := roller.Layers(m, i)
			if periods[i] == 0 {
				if e != api.ErrNone || len(l) != 0 {
					t.Errorf("Layers(%v, %d) = %v, %d", m, i, l, e)
				}
				continue
			}
			if e != api.OK || len(l) != len(m) {
				t.Errorf("Layers(%v, %d) = %v, %d", m, i, l, e)
				continue
			}
			for j := range m {
				if smallest[i] != smallest[j] && l[j] != -1 || smallest[i] == smallest[j] && !isLayer(walks, i, j, l[j], periods[i]) {
					t.Errorf("Layers(%v, %d) = %v: wrong at %d", m, i, l, j)
				}
			}
		}
	}
}

// isLayer reports whether all walks from i to j have lengths with the remainder.
func isLayer(walks [][][]bool, i, j, layer, period int) bool {
	for k, w := range walks {
		if w[i][j] && k%period != layer {
			return false
		}
	}
	return true
}

// P2.2
func TestLayersByHand(t *testing.T) {
	// A ring of 0, 2, 1 and 3, from which 4 is reached.
	m := [][]int{{0, 0, 1, 0, 0}, {0, 0, 0, 1, 0}, {0, 1, 0, 0, 1}, {1, 0, 0, 0, 0}, {0, 0, 0, 0, 0}}
	for i, layers := range [][]int{{0, 2, 1, 3, -1}, {2, 0, 3, 1, -1}, {3, 1, 0, 2, -1}, {1, 3, 2, 0, -1}} {
		if l, e := roller.Layers(m, i); e != api.OK || !slices.Equal(l, layers) {
			t.Errorf("Layers(%d) = %v, %d", i, l, e)
		}
	}
	if l, e := roller.Layers(m, 4); e != api.ErrNone || len(l) != 0 {
		t.Errorf("Layers(4) = %v, %d", l, e)
	}
	if l, e := roller.Layers([][]int{{3}}, 0); e != api.OK || !slices.Equal(l, []int{0}) {
		t.Errorf("Layers of a step to itself = %v, %d", l, e)
	}
}
