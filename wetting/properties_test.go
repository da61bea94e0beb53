package wetting_test

import (
	"math/rand"
	"slices"
	"testing"

	"numnah/api"
	"numnah/wetting"
)

// families are graphs for the properties.
func families(seed int64) []graph {
	return slices.Concat(smallGraphs(5), named(), someGraphs(seed, 60))
}

func (g graph) isForcing(s bits) bool {
	wet, _, e := wetting.Close(g.n, g.edges, s.list())
	return e == api.OK && len(wet) == g.n
}

func (g graph) isSoaking(s bits, r int) bool {
	wet, _, e := wetting.Soak(g.n, g.edges, s.list(), r)
	return e == api.OK && len(wet) == g.n
}

// meets reports whether a set has a vertex of each of the others.
func meets(s bits, others []bits) bool {
	return !slices.ContainsFunc(others, func(t bits) bool { return s&t == 0 })
}

// P6.6, P5
func TestForcingSetsMeetAllForts(t *testing.T) {
	for i, g := range families(10) {
		var forts []bits
		for _, s := range g.sets() {
			if is, e := wetting.IsFort(g.n, g.edges, s.list()); is && e == api.OK {
				forts = append(forts, s)
			}
		}
		for _, s := range someSets(int64(i), g, 100) {
			if g.isForcing(s) != meets(s, forts) {
				t.Errorf("%v: %v is forcing: %v, but it meets all forts: %v", g, s.list(), g.isForcing(s), meets(s, forts))
			}
		}
	}
}

// P6.6, P5, P4: the first set that meets all of Forts is Least.
func TestLeastMeetsForts(t *testing.T) {
	for _, g := range families(11) {
		lists, e := wetting.Forts(g.n, g.edges)
		var forts []bits
		for _, l := range lists {
			forts = append(forts, bitsOf(l))
		}
		sets := g.inOrder()
		i := slices.IndexFunc(sets, func(s bits) bool { return meets(s, forts) })
		if least, o := wetting.Least(g.n, g.edges); e != api.OK || o != api.OK || i < 0 || bitsOf(least) != sets[i] {
			t.Errorf("Least(%v) = %v, %d, but Forts is %v, %d", g, least, o, lists, e)
		}
	}
}

// P6.6, P5
func TestTheOrderDoesNotMatter(t *testing.T) {
	random := rand.New(rand.NewSource(12))
	for i, g := range families(12) {
		for _, s := range someSets(int64(i), g, 15) {
			_, want := g.isChronicle(s, g.chronicle(s, random.Intn))
			if wet, _, e := wetting.Close(g.n, g.edges, s.list()); e != api.OK || bitsOf(wet) != want {
				t.Errorf("Close(%v, %v) = %v, %d, but in another order %v", g, s.list(), wet, e, want.list())
			}
		}
	}
}

// P6.6, P5
func TestForcingSetsAreNotSmall(t *testing.T) {
	for i, g := range families(13) {
		fewest := g.n
		for v := range g.n {
			fewest = min(fewest, len(g.neighbors(v).list()))
		}
		if least, e := wetting.Least(g.n, g.edges); e != api.OK || len(least) < fewest {
			t.Errorf("Least(%v) = %v, %d, but each vertex has %d neighbors", g, least, e, fewest)
		}
		for _, s := range someSets(int64(i), g, 50) {
			if g.isForcing(s) && len(s.list()) < fewest {
				t.Errorf("%v is forcing in %v, where each vertex has %d neighbors", s.list(), g, fewest)
			}
		}
	}
}

// P6.6, P5
func TestChainsContainAllVertices(t *testing.T) {
	for i, g := range families(14) {
		for _, s := range someSets(int64(i), g, 50) {
			chains, e := wetting.Chains(g.n, g.edges, s.list())
			if (e == api.OK) != g.isForcing(s) {
				t.Errorf("Chains(%v, %v) = %v, %d", g, s.list(), chains, e)
			}
			var vertices []int
			for _, chain := range chains {
				vertices = append(vertices, chain...)
				for j := 1; j < len(chain); j++ {
					if !g.neighbors(chain[j]).has(chain[j-1]) {
						t.Errorf("Chains(%v, %v) = %v, but %d and %d are no neighbors", g, s.list(), chains, chain[j-1], chain[j])
					}
				}
			}
			slices.Sort(vertices)
			if e == api.OK && !slices.Equal(vertices, upTo(0, g.n)) {
				t.Errorf("Chains(%v, %v) = %v", g, s.list(), chains)
			}
		}
	}
}

// P6.6, P5
func TestClosuresDoNotShrink(t *testing.T) {
	for i, g := range families(15) {
		for _, s := range someSets(int64(i), g, 30) {
			for v := range g.n {
				more := s | 1<<v
				a, _, _ := wetting.Close(g.n, g.edges, s.list())
				b, _, e := wetting.Close(g.n, g.edges, more.list())
				if e != api.OK || bitsOf(a)&^bitsOf(b) != 0 {
					t.Errorf("Close(%v, %v) = %v, but with %d %v, %d", g, s.list(), a, v, b, e)
				}
				r := 1 + (i+v)%api.MaxThreshold
				a, _, _ = wetting.Soak(g.n, g.edges, s.list(), r)
				b, _, e = wetting.Soak(g.n, g.edges, more.list(), r)
				if e != api.OK || bitsOf(a)&^bitsOf(b) != 0 {
					t.Errorf("Soak(%v, %v, %d) = %v, but with %d %v, %d", g, s.list(), r, a, v, b, e)
				}
			}
		}
	}
}

// P6.6, P5
func TestSoaksDoNotGrowWithThresholds(t *testing.T) {
	for i, g := range families(16) {
		for _, s := range someSets(int64(i), g, 30) {
			before := g.all()
			for r := 1; r <= api.MaxThreshold; r++ {
				wet, _, e := wetting.Soak(g.n, g.edges, s.list(), r)
				if e != api.OK || bitsOf(wet)&^before != 0 {
					t.Errorf("Soak(%v, %v, %d) = %v, %d, but with less %v", g, s.list(), r, wet, e, before.list())
				}
				before = bitsOf(wet)
			}
		}
	}
}

// P6.6, P5
func TestSoakingSetsMeetAllShelters(t *testing.T) {
	for i, g := range slices.Concat(smallGraphs(4), named(), someGraphs(17, 60)) {
		for r := 1; r <= api.MaxThreshold; r++ {
			shelters := g.shelters(r)
			for _, s := range someSets(int64(i), g, 50) {
				_, e := wetting.Shelter(g.n, g.edges, s.list(), r)
				if is := g.isSoaking(s, r); is != meets(s, shelters) || e != noneIf(is) {
					t.Errorf("%v: %v is soaking for %d: %v, but it meets all shelters: %v", g, s.list(), r, is, meets(s, shelters))
				}
			}
		}
	}
}
