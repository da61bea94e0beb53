package wetting_test

import (
	"math"
	"math/rand"
	"reflect"
	"slices"
	"testing"

	"numnah/api"
	"numnah/wetting"
)

// call is a function with its arguments.
type call struct {
	name string
	run  func() ([]any, api.Errno)
}

// graphCalls returns a call of each function that takes no set.
func graphCalls(n int, edges [][2]int, r int) []call {
	return []call{
		{"Least", func() ([]any, api.Errno) {
			l, e := wetting.Least(n, edges)
			return []any{l}, e
		}},
		{"Forts", func() ([]any, api.Errno) {
			l, e := wetting.Forts(n, edges)
			return []any{l}, e
		}},
		{"Fewest", func() ([]any, api.Errno) {
			l, e := wetting.Fewest(n, edges, r)
			return []any{l}, e
		}},
		{"Shared", func() ([]any, api.Errno) {
			b, e := wetting.Shared(n, edges, r)
			return []any{b}, e
		}},
	}
}

// setCalls returns a call of each function that takes a set.
func setCalls(n int, edges [][2]int, set []int, r int, chronicle [][2]int) []call {
	return []call{
		{"Close", func() ([]any, api.Errno) {
			l, k, e := wetting.Close(n, edges, set)
			return []any{l, k}, e
		}},
		{"Rounds", func() ([]any, api.Errno) {
			l, e := wetting.Rounds(n, edges, set)
			return []any{l}, e
		}},
		{"Fort", func() ([]any, api.Errno) {
			l, e := wetting.Fort(n, edges, set)
			return []any{l}, e
		}},
		{"IsFort", func() ([]any, api.Errno) {
			b, e := wetting.IsFort(n, edges, set)
			return []any{b}, e
		}},
		{"Chronicle", func() ([]any, api.Errno) {
			l, e := wetting.Chronicle(n, edges, set)
			return []any{l}, e
		}},
		{"Check", func() ([]any, api.Errno) {
			return nil, wetting.Check(n, edges, set, chronicle)
		}},
		{"Chains", func() ([]any, api.Errno) {
			l, e := wetting.Chains(n, edges, set)
			return []any{l}, e
		}},
		{"Soak", func() ([]any, api.Errno) {
			l, k, e := wetting.Soak(n, edges, set, r)
			return []any{l, k}, e
		}},
		{"Shelter", func() ([]any, api.Errno) {
			l, e := wetting.Shelter(n, edges, set, r)
			return []any{l}, e
		}},
	}
}

// allCalls returns a call of each function.
func allCalls(n int, edges [][2]int, set []int, r int, chronicle [][2]int) []call {
	return slices.Concat(graphCalls(n, edges, r), setCalls(n, edges, set, r, chronicle))
}

// isZero reports whether each result is its zero value, or an empty list.
func isZero(results []any) bool {
	for _, r := range results {
		v := reflect.ValueOf(r)
		if v.Kind() == reflect.Slice && v.Len() > 0 || v.Kind() != reflect.Slice && !v.IsZero() {
			return false
		}
	}
	return true
}

func checkRefused(t *testing.T, x call, arguments ...any) {
	t.Helper()
	if r, e := x.run(); e != api.ErrArg || !isZero(r) {
		t.Errorf("%s%.200v = %v, %d", x.name, arguments, r, e)
	}
}

// ErrArg comes first for every function if it is no graph: before ErrNone of Fort, Chains and Shelter, and before ErrAnswer.
func TestWhatIsNoGraph(t *testing.T) {
	for _, g := range []graph{
		{0, nil}, {-1, nil}, {13, nil}, {math.MinInt, nil}, {math.MaxInt, nil}, {1 << 32, nil}, {0, [][2]int{{0, 1}}}, {13, [][2]int{{0, 1}}}, {13, pairs(13)},
		// What is no edge.
		{1, [][2]int{{0, 1}}}, {1, [][2]int{{0, 0}}}, {2, [][2]int{{1, 0}}}, {2, [][2]int{{1, 1}}}, {2, [][2]int{{0, 2}}}, {2, [][2]int{{-1, 0}}}, {2, [][2]int{{-1, 1}}}, {2, [][2]int{{-2, -1}}}, {2, [][2]int{{2, 3}}},
		{2, [][2]int{{0, 1}, {1, 0}}}, {3, [][2]int{{0, 1}, {1, 2}, {2, 2}}}, {3, [][2]int{{0, 1}, {1, 3}}}, {12, [][2]int{{0, 12}}}, {12, [][2]int{{11, 12}}}, {12, [][2]int{{12, 13}}},
		{3, [][2]int{{0, math.MaxInt}}}, {3, [][2]int{{math.MinInt, 1}}}, {3, [][2]int{{math.MinInt, math.MaxInt}}}, {3, [][2]int{{0, 1 << 32}}}, {3, [][2]int{{0, 1<<32 + 1}}},
		// Edges that occur twice.
		{2, [][2]int{{0, 1}, {0, 1}}}, {3, [][2]int{{0, 1}, {1, 2}, {0, 1}}}, {12, append(pairs(12), [2]int{10, 11})}, {12, slices.Repeat([][2]int{{3, 5}}, 100000)}, {12, make([][2]int, 100000)},
	} {
		for _, set := range [][]int{{0}, nil, {}, {1, 0}, {0, 1}} {
			for _, r := range []int{1, 0} {
				for _, x := range allCalls(g.n, g.edges, set, r, [][2]int{{5, 5}}) {
					checkRefused(t, x, g, set, r)
				}
			}
		}
	}
}

// ErrArg comes first for every function that takes a set, if it is none.
func TestWhatIsNoSet(t *testing.T) {
	for _, g := range []graph{path(4), ring(4), complete(4), empty(4)} {
		for _, set := range [][]int{
			{4}, {-1}, {0, 4}, {-1, 0}, {0, 0}, {1, 0}, {3, 3}, {0, 1, 1}, {0, 2, 1}, {0, 1, 2, 3, 3}, {0, 1, 2, 3, 4}, {0, 1, 2, 3, 0}, {3, 2, 1, 0}, {12}, {math.MinInt}, {math.MaxInt}, {math.MinInt, 0}, {0, math.MaxInt}, {0, math.MinInt}, {1 << 32}, make([]int, 100000), upTo(0, 100000),
		} {
			for _, chronicle := range [][][2]int{nil, {{0, 1}}, {{9, 9}}} {
				for _, x := range setCalls(g.n, g.edges, set, 1, chronicle) {
					checkRefused(t, x, g, set)
				}
			}
		}
	}
}

// Sets and graphs of any valid size are accepted.
func TestWhatIsASet(t *testing.T) {
	for n := 1; n <= api.MaxPlaces; n++ {
		for _, g := range []graph{{n, nil}, {n, [][2]int{}}, complete(n)} {
			for _, set := range [][]int{nil, {}, {0}, {n - 1}, upTo(0, n), upTo(n/2, n)} {
				if l, _, e := wetting.Close(n, g.edges, set); e != api.OK || len(l) < len(set) {
					t.Errorf("Close(%v, %v) = %v, %d", g, set, l, e)
				}
			}
		}
	}
}

// ErrArg comes first for every function that takes a threshold, if it is none.
func TestWhatIsNoThreshold(t *testing.T) {
	for _, g := range []graph{empty(1), path(4), complete(12)} {
		for _, set := range [][]int{upTo(0, g.n), nil, {}} {
			for _, r := range []int{0, -1, 7, 8, 12, math.MinInt, math.MaxInt, 1 << 32, 1<<32 + 1} {
				for _, x := range allCalls(g.n, g.edges, set, r, nil) {
					switch x.name {
					case "Fewest", "Shared", "Soak", "Shelter":
						checkRefused(t, x, g, set, r)
					}
				}
			}
		}
	}
}

// errorsOf are the errors that a function may return beside ErrArg.
func errorsOf(name string) []api.Errno {
	switch name {
	case "Fort", "Chains", "Shelter":
		return []api.Errno{api.OK, api.ErrNone}
	case "Check":
		return []api.Errno{api.OK, api.ErrAnswer}
	}
	return []api.Errno{api.OK}
}

// P1: all functions accept all numbers; rule 4: with an error, all results are their zero values.
func TestAllNumbers(t *testing.T) {
	numbers := []int{math.MinInt, -1 << 32, -2, -1, 0, 1, 2, 3, 4, 6, 7, 11, 12, 13, 1 << 32, math.MaxInt - 1, math.MaxInt}
	random := rand.New(rand.NewSource(8))
	number := func() int { return numbers[random.Intn(len(numbers))] }
	for _, n := range numbers {
		for range 600 {
			var edges, chronicle [][2]int
			var set []int
			for range random.Intn(3) {
				edges = append(edges, [2]int{number(), number()})
				chronicle = append(chronicle, [2]int{number(), number()})
			}
			for range random.Intn(4) {
				set = append(set, number())
			}
			if random.Intn(2) == 0 {
				slices.Sort(set)
			}
			r := number()
			for _, x := range allCalls(n, edges, set, r, chronicle) {
				if y, e := x.run(); e != api.OK && !isZero(y) || e != api.ErrArg && !slices.Contains(errorsOf(x.name), e) {
					t.Errorf("%s(%d, %v, %v, %d, %v) = %v, %d", x.name, n, edges, set, r, chronicle, y, e)
				}
			}
		}
	}
}

// spoil overwrites all of a list, with what lies behind it; a result that is no list shares nothing.
func spoil(result any) {
	switch l := result.(type) {
	case []int:
		for i := range l[:cap(l)] {
			l[:cap(l)][i] = -99
		}
	case [][2]int:
		for i := range l[:cap(l)] {
			l[:cap(l)][i] = [2]int{-99, -99}
		}
	case [][]int:
		for _, m := range l {
			spoil(m)
		}
		clear(l[:cap(l)])
	}
}

// checkLists checks that the lists of a result share no memory.
func checkLists(t *testing.T, name string, result any) {
	t.Helper()
	lists, _ := result.([][]int)
	for i, l := range lists {
		before := slices.Clone(lists)
		for j := range before {
			before[j] = slices.Clone(lists[j])
		}
		spoil(l)
		for j := range lists {
			if i != j && !slices.Equal(lists[j], before[j]) {
				t.Errorf("%s: its lists share memory", name)
			}
		}
	}
}

// P2: the result depends on the arguments only. Rule 5: no argument is changed, and results are new memory, which they do not share with each other.
func TestResultsAreNew(t *testing.T) {
	random := rand.New(rand.NewSource(9))
	for i, g := range slices.Concat(named(), someGraphs(9, 25)) {
		sets := someSets(int64(i), g, 5)
		if smallest := g.smallest(g.forcing()); len(smallest) > 0 {
			sets = append(sets, smallest[0])
		}
		for _, s := range sets {
			set := s.list()
			chronicle := g.chronicle(s, random.Intn)
			edges, kept, pairs := slices.Clone(g.edges), slices.Clone(set), slices.Clone(chronicle)
			for _, x := range allCalls(g.n, edges, set, 1+random.Intn(api.MaxThreshold), chronicle) {
				first, e := x.run()
				second, _ := x.run()
				for _, result := range second {
					checkLists(t, x.name, result)
					spoil(result)
				}
				if third, o := x.run(); e != o || !reflect.DeepEqual(first, third) {
					t.Errorf("%s of %v, %v = %v, %d, and then %v, %d", x.name, g, set, first, e, third, o)
				}
				if !slices.Equal(edges, g.edges) || !slices.Equal(set, kept) || !slices.Equal(chronicle, pairs) {
					t.Fatalf("%s of %v, %v, %v changes an argument", x.name, g, kept, pairs)
				}
			}
		}
	}
}
