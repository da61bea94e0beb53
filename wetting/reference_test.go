package wetting_test

import (
	"math/rand"
	"slices"

	"numnah/api"
)

// The helpers of this file follow the definitions of the chapter word by word, without regard to time, so that the tests hold the package against them.

// bits is a set of vertices: v has the value 2^v.
type bits int

func bitsOf(list []int) bits {
	var s bits
	for _, v := range list {
		s |= 1 << v
	}
	return s
}

func (s bits) has(v int) bool {
	return s>>v&1 == 1
}

func (s bits) list() []int {
	var list []int
	for v := range api.MaxPlaces {
		if s.has(v) {
			list = append(list, v)
		}
	}
	return list
}

// graph is one as the functions take it.
type graph struct {
	n     int
	edges [][2]int
}

func (g graph) all() bits {
	return 1<<g.n - 1
}

// sets are all sets, the empty one first.
func (g graph) sets() []bits {
	var sets []bits
	for s := bits(0); s <= g.all(); s++ {
		sets = append(sets, s)
	}
	return sets
}

// inOrder are all sets, ordered by their lengths, and those of one length lexicographically.
func (g graph) inOrder() []bits {
	sets := g.sets()
	slices.SortFunc(sets, func(s, t bits) int {
		if a, b := len(s.list()), len(t.list()); a != b {
			return a - b
		}
		return slices.Compare(s.list(), t.list())
	})
	return sets
}

func (g graph) neighbors(v int) bits {
	var s bits
	for _, e := range g.edges {
		if e[0] == v {
			s |= 1 << e[1]
		}
		if e[1] == v {
			s |= 1 << e[0]
		}
	}
	return s
}

// rule reports whether a dry vertex can be wetted by what is wet.
type rule func(v int, wet bits) bool

// wets reports whether u is wet, and v is its only dry neighbor.
func (g graph) wets(u, v int, wet bits) bool {
	return wet.has(u) && g.neighbors(u)&^wet == 1<<v
}

// forcing is quick enough for all graphs, since it keeps the neighbors.
func (g graph) forcing() rule {
	near := g.near()
	return func(v int, wet bits) bool {
		for u := range g.n {
			if wet.has(u) && near[u]&^wet == 1<<v {
				return true
			}
		}
		return false
	}
}

func (g graph) soaking(r int) rule {
	near := g.near()
	return func(v int, wet bits) bool {
		return len((near[v] & wet).list()) >= r
	}
}

func (g graph) near() []bits {
	var near []bits
	for v := range g.n {
		near = append(near, g.neighbors(v))
	}
	return near
}

// rounds are the rounds in which the vertices become wet, and -1 for those that stay dry.
func (g graph) rounds(set bits, can rule) []int {
	rounds := make([]int, g.n)
	for v := range g.n {
		rounds[v] = -1
		if set.has(v) {
			rounds[v] = 0
		}
	}
	wet := set
	for i := 1; ; i++ {
		before := wet
		for v := range g.n {
			if !before.has(v) && can(v, before) {
				wet |= 1 << v
				rounds[v] = i
			}
		}
		if wet == before {
			return rounds
		}
	}
}

// closure is the set of all vertices that become wet, and the number of rounds in which something does.
func (g graph) closure(set bits, can rule) (bits, int) {
	rounds := g.rounds(set, can)
	var wet bits
	for v, i := range rounds {
		if i >= 0 {
			wet |= 1 << v
		}
	}
	return wet, lastRound(rounds)
}

// lastRound is the last round in which something becomes wet, which is 0 if all vertices stay dry.
func lastRound(rounds []int) int {
	return max(0, slices.Max(rounds))
}

func (g graph) wetsAll(set bits, can rule) bool {
	wet, _ := g.closure(set, can)
	return wet == g.all()
}

// smallest are the smallest sets that wet all vertices, in lexicographic order.
func (g graph) smallest(can rule) []bits {
	var sets []bits
	for _, s := range g.inOrder() {
		if len(sets) > 0 && len(s.list()) > len(sets[0].list()) {
			break
		}
		if g.wetsAll(s, can) {
			sets = append(sets, s)
		}
	}
	return sets
}

func (g graph) isFort(s bits) bool {
	for v := range g.n {
		if !s.has(v) && len((g.neighbors(v)&s).list()) == 1 {
			return false
		}
	}
	return s != 0
}

func (g graph) isShelter(s bits, r int) bool {
	for v := range g.n {
		if s.has(v) && len((g.neighbors(v)&^s).list()) >= r {
			return false
		}
	}
	return s != 0
}

// choose returns the sets that pass.
func choose(sets []bits, passes func(bits) bool) []bits {
	var chosen []bits
	for _, s := range sets {
		if passes(s) {
			chosen = append(chosen, s)
		}
	}
	return chosen
}

// forts are all forts.
func (g graph) forts() []bits {
	return choose(g.sets(), g.isFort)
}

// shelters are all shelters for r.
func (g graph) shelters(r int) []bits {
	return choose(g.sets(), func(s bits) bool { return g.isShelter(s, r) })
}

// greatest is the one of the sets that contains all those which have no vertex of the given one, and has none itself. It is 0 if there is no such set, and -1 if none contains all others.
func greatest(sets []bits, set bits) bits {
	outside := choose(sets, func(s bits) bool { return s&set == 0 })
	if len(outside) == 0 {
		return 0
	}
	for _, s := range outside {
		if !slices.ContainsFunc(outside, func(t bits) bool { return t&^s != 0 }) {
			return s
		}
	}
	return -1
}

// least are the sets that contain no smaller one of them.
func least(sets []bits) []bits {
	return choose(sets, func(s bits) bool {
		return !slices.ContainsFunc(sets, func(t bits) bool { return t != s && t&^s == 0 })
	})
}

// isChronicle reports whether the pairs are a chronicle of a set, and what is wet after it.
func (g graph) isChronicle(set bits, pairs [][2]int) (bool, bits) {
	wet := set
	for _, p := range pairs {
		if p[0] < 0 || p[0] >= g.n || p[1] < 0 || p[1] >= g.n || !g.wets(p[0], p[1], wet) {
			return false, wet
		}
		wet |= 1 << p[1]
	}
	return true, wet
}

// options are all pairs u, v so that u can wet v, in ascending order of u.
func (g graph) options(wet bits) [][2]int {
	var options [][2]int
	for u := range g.n {
		for v := range g.n {
			if g.wets(u, v, wet) {
				options = append(options, [2]int{u, v})
			}
		}
	}
	return options
}

// chronicle is the one that takes the chosen option of those which there are, until there is none.
func (g graph) chronicle(set bits, choice func(options int) int) [][2]int {
	var pairs [][2]int
	wet := set
	for {
		options := g.options(wet)
		if len(options) == 0 {
			return pairs
		}
		p := options[choice(len(options))]
		pairs = append(pairs, p)
		wet |= 1 << p[1]
	}
}

// takeFirst chooses the smallest vertex that can wet one.
func takeFirst(int) int {
	return 0
}

// chains are the lists that begin with the vertices of the set.
func (g graph) chains(set bits) [][]int {
	var chains [][]int
	for _, v := range set.list() {
		chains = append(chains, []int{v})
	}
	for _, p := range g.chronicle(set, takeFirst) {
		for i, chain := range chains {
			if chain[len(chain)-1] == p[0] {
				chains[i] = append(chain, p[1])
			}
		}
	}
	return chains
}

// pairs are all pairs a < b of n vertices.
func pairs(n int) [][2]int {
	var pairs [][2]int
	for a := range n {
		for b := a + 1; b < n; b++ {
			pairs = append(pairs, [2]int{a, b})
		}
	}
	return pairs
}

// joined is the graph of n vertices whose edges are the pairs that are joined.
func joined(n int, isEdge func(a, b int) bool) graph {
	g := graph{n: n}
	for _, p := range pairs(n) {
		if isEdge(p[0], p[1]) {
			g.edges = append(g.edges, p)
		}
	}
	return g
}

func path(n int) graph {
	return joined(n, func(a, b int) bool { return b-a == 1 })
}

func ring(n int) graph {
	return joined(n, func(a, b int) bool { return b-a == 1 || b-a == n-1 })
}

// star has the middle 0.
func star(n int) graph {
	return joined(n, func(a, b int) bool { return a == 0 })
}

// wheel has the hub 0.
func wheel(n int) graph {
	return joined(n, func(a, b int) bool { return a == 0 || b-a == 1 || b-a == n-2 })
}

func empty(n int) graph {
	return graph{n: n}
}

func complete(n int) graph {
	return joined(n, func(a, b int) bool { return true })
}

// between joins each of the first a vertices with each of the b other ones.
func between(a, b int) graph {
	return joined(a+b, func(x, y int) bool { return x < a && y >= a })
}

func grid(rows, columns int) graph {
	return joined(rows*columns, func(a, b int) bool {
		return b-a == columns || b-a == 1 && b%columns > 0
	})
}

func cube() graph {
	return joined(8, func(a, b int) bool { return a^b == 1 || a^b == 2 || a^b == 4 })
}

func petersen() graph {
	return joined(10, func(a, b int) bool {
		if a < 5 && b >= 5 {
			return b-a == 5
		}
		if b < 5 {
			return b-a == 1 || b-a == 4
		}
		return b-a == 2 || b-a == 3
	})
}

// named are graphs of up to MaxPlaces vertices that have names.
func named() []graph {
	graphs := []graph{cube(), petersen(), grid(2, 5), grid(3, 3), grid(3, 4), between(2, 3), between(4, 4), between(1, 11), between(6, 6)}
	for _, n := range []int{6, 7, 8, 11, 12} {
		graphs = append(graphs, path(n), ring(n), star(n), wheel(n), empty(n), complete(n))
	}
	return graphs
}

// allGraphs are all graphs of n vertices.
func allGraphs(n int) []graph {
	var graphs []graph
	all := pairs(n)
	for chosen := range 1 << len(all) {
		g := graph{n: n}
		for i, p := range all {
			if chosen>>i&1 == 1 {
				g.edges = append(g.edges, p)
			}
		}
		graphs = append(graphs, g)
	}
	return graphs
}

// smallGraphs are all graphs of up to n vertices.
func smallGraphs(n int) []graph {
	var graphs []graph
	for m := 1; m <= n; m++ {
		graphs = append(graphs, allGraphs(m)...)
	}
	return graphs
}

// someGraphs is a fixed choice of graphs of 6 to MaxPlaces vertices with few to many edges, whose order is a random one.
func someGraphs(seed int64, count int) []graph {
	random := rand.New(rand.NewSource(seed))
	var graphs []graph
	for range count {
		n := 6 + random.Intn(api.MaxPlaces-5)
		edges := 1 + random.Intn(9)
		g := joined(n, func(a, b int) bool { return random.Intn(10) < edges })
		random.Shuffle(len(g.edges), func(i, j int) { g.edges[i], g.edges[j] = g.edges[j], g.edges[i] })
		graphs = append(graphs, g)
	}
	return graphs
}

// someSets is a fixed choice of sets of a graph, the empty one among them; of one with few vertices they are all.
func someSets(seed int64, g graph, count int) []bits {
	sets := g.sets()
	if len(sets) <= count {
		return sets
	}
	random := rand.New(rand.NewSource(seed))
	some := []bits{0}
	for range count - 1 {
		some = append(some, sets[random.Intn(len(sets))])
	}
	return some
}

// listsOf are the lists of the sets.
func listsOf(sets []bits) [][]int {
	var lists [][]int
	for _, s := range sets {
		lists = append(lists, s.list())
	}
	return lists
}
