package shares_test

import (
	"math"
	"math/big"
	"math/rand"
	"slices"
	"testing"

	"numnah/api"
	"numnah/shares"
)

// rats are fractions that are valid as numbers.
func rats(list []api.Frac) []*big.Rat {
	var numbers []*big.Rat
	for _, f := range list {
		numbers = append(numbers, rat(f))
	}
	return numbers
}

// someRates are rates for a network, mostly small enough to be possible, with denominators up to the limit.
func someRates(random *rand.Rand, n network) []api.Frac {
	var rates []*big.Rat
	for range n.users {
		den := 1 + random.Intn([]int{1, 2, 6, 100}[random.Intn(4)])
		rates = append(rates, big.NewRat(int64(random.Intn([]int{1, 3 * den, 60 * den}[random.Intn(3)])), int64(den)))
	}
	return fracs(rates)
}

// P7.2
func TestLoadByHand(t *testing.T) {
	users := []api.User{user(1, 0, 1), user(4, 0)}
	for _, x := range []struct{ rates, loads [][2]int }{
		{[][2]int{{4, 1}, {6, 1}}, [][2]int{{10, 1}, {4, 1}, {0, 1}}},
		{[][2]int{{1, 2}, {1, 3}}, [][2]int{{5, 6}, {1, 2}, {0, 1}}},
		{[][2]int{{1, 2}, {1, 2}}, [][2]int{{1, 1}, {1, 2}, {0, 1}}},
		{[][2]int{{0, 1}, {0, 1}}, [][2]int{{0, 1}, {0, 1}, {0, 1}}},
		{[][2]int{{1000000, 1}, {999999, 100}}, [][2]int{{100999999, 100}, {1000000, 1}, {0, 1}}},
	} {
		// The rates need not be possible.
		if l, e := shares.Load([]int{10, 4, 5}, users, pairs(x.rates...)); e != api.OK || !slices.Equal(l, pairs(x.loads...)) {
			t.Errorf("Load(%v) = %v, %d", x.rates, l, e)
		}
	}
}

// P7.2
func TestLoad(t *testing.T) {
	random := rand.New(rand.NewSource(11))
	for _, n := range networks() {
		rates := someRates(random, n)
		if l, e := shares.Load(n.pipes, n.users, rates); e != api.OK || !areThose(l, n.loads(rats(rates))) {
			t.Errorf("Load(%v, %v) = %v, %d", n, rates, l, e)
		}
	}
}

// P7.2: the greatest numerators and denominators, which have no common divisors, so that the numbers of the loads are as great as they can be.
func TestGreatLoads(t *testing.T) {
	n := network{[]int{200, 0, 1}, slices.Repeat([]api.User{user(1, 0, 2)}, 6)}
	rates := pairs([2]int{1000000, 99}, [2]int{1000000, 97}, [2]int{999999, 100}, [2]int{1000000, 89}, [2]int{1000000, 91}, [2]int{1000000, 83})
	if l, e := shares.Load(n.pipes, n.users, rates); e != api.OK || !areThose(l, n.loads(rats(rates))) {
		t.Errorf("Load(%v) = %v, %d", rates, l, e)
	}
	if user, e := shares.Better(n.pipes, n.users, rates); e != api.ErrAnswer || user != 0 {
		t.Errorf("Better(%v) = %d, %d", rates, user, e)
	}
	whole := slices.Repeat(pairs([2]int{1000000, 1}), 6)
	if l, e := shares.Load(n.pipes, n.users, whole); e != api.OK || !slices.Equal(l, pairs([2]int{6000000, 1}, [2]int{0, 1}, [2]int{6000000, 1})) {
		t.Errorf("Load(%v) = %v, %d", whole, l, e)
	}
}

// P7.2
func TestBetterByHand(t *testing.T) {
	users := []api.User{user(1, 0, 1), user(1, 0)}
	for _, x := range []struct {
		rates [][2]int
		want  int
		e     api.Errno
	}{
		{[][2]int{{4, 1}, {6, 1}}, -1, api.OK},
		{[][2]int{{3, 1}, {7, 1}}, 0, api.OK},  // no pipe that it has is full, but for one whose other user has more
		{[][2]int{{4, 1}, {5, 1}}, 1, api.OK},  // its pipe is not full
		{[][2]int{{0, 1}, {10, 1}}, 0, api.OK}, // the other one has all
		{[][2]int{{0, 1}, {0, 1}}, 0, api.OK},
		{[][2]int{{4, 1}, {599, 100}}, 1, api.OK},
		{[][2]int{{4, 1}, {601, 100}}, 0, api.ErrAnswer},
		{[][2]int{{5, 1}, {5, 1}}, 0, api.ErrAnswer},
		{[][2]int{{401, 100}, {1, 1}}, 0, api.ErrAnswer},
	} {
		if user, e := shares.Better([]int{10, 4}, users, pairs(x.rates...)); e != x.e || user != x.want {
			t.Errorf("Better(%v) = %d, %d", x.rates, user, e)
		}
	}
	// With weights, a level counts and not a rate.
	users = []api.User{user(2, 0), user(3, 0)}
	for _, x := range []struct {
		rates [][2]int
		want  int
	}{{[][2]int{{4, 1}, {6, 1}}, -1}, {[][2]int{{5, 1}, {5, 1}}, 1}, {[][2]int{{3, 1}, {7, 1}}, 0}} {
		if user, e := shares.Better([]int{10}, users, pairs(x.rates...)); e != api.OK || user != x.want {
			t.Errorf("Better(%v) = %d, %d", x.rates, user, e)
		}
	}
}

// isRate reports whether a rate is one of which Load and Better make no error.
func isRate(f api.Frac) bool {
	return isValid(f) && f.Num >= 0 && f.Num <= 1000000 && f.Den <= 100
}

// checkBetter holds Better against the definition, for rates that are valid fractions.
func checkBetter(t *testing.T, n network, rates []*big.Rat) {
	t.Helper()
	list := fracs(rates)
	want, e := 0, api.ErrAnswer
	if !slices.ContainsFunc(list, func(f api.Frac) bool { return !isRate(f) }) && n.arePossible(rates) {
		want, e = n.better(rates), api.OK
	}
	if user, o := shares.Better(n.pipes, n.users, list); o != e || user != want {
		t.Errorf("Better(%v, %v) = %d, %d, not %d, %d", n, list, user, o, want, e)
	}
}

// P7.2: any rates, the fair ones, and those with one changed.
func TestBetter(t *testing.T) {
	random := rand.New(rand.NewSource(12))
	for _, n := range networks() {
		checkBetter(t, n, rats(someRates(random, n)))
		fair, _, e := shares.Fair(n.pipes, n.users)
		if e != api.OK {
			t.Fatalf("Fair(%v): %d", n, e)
		}
		checkBetter(t, n, rats(fair))
		for i := range fair {
			less := rats(fair)
			less[i] = times(less[i], big.NewRat(int64(random.Intn(3)), 2))
			checkBetter(t, n, less)
		}
	}
}

// wrongNetworks are no pipes, or no users.
func wrongNetworks() []network {
	pipes, users := []int{3, 4}, []api.User{user(1, 0), user(2, 0, 1)}
	list := []network{
		{nil, users}, {[]int{}, users}, {make([]int, 6), users}, {make([]int, 100000), users}, {pipes, nil}, {pipes, []api.User{}}, {nil, nil}, {pipes, slices.Repeat(users, 4)}, {pipes, append(slices.Repeat(users, 3), users[0])}, {pipes, slices.Repeat(users, 50000)}, {pipes, make([]api.User, 100000)},
	}
	for _, capacity := range []int{-1, 201, math.MinInt, math.MaxInt, 1 << 32} {
		list = append(list, network{[]int{capacity, 4}, users}, network{[]int{3, capacity}, users}, network{[]int{3, 4, 200, 0, capacity}, users})
	}
	for _, wrong := range []api.User{
		{}, user(0, 0), user(5, 0), user(-1, 0), user(math.MinInt, 0), user(math.MaxInt, 0), user(1<<32+1, 0),
		user(1), {Weight: 1, Pipes: []int{}}, user(1, 1, 0), user(1, 0, 0), user(1, 1, 1), user(1, 2), user(1, -1), user(1, 0, 2), user(1, -1, 0), user(1, 0, 1, 1), user(1, 0, 1, 0), user(1, math.MinInt), user(1, math.MaxInt), user(1, 0, math.MaxInt), user(1, math.MinInt, 0), user(1, 1<<32), {Weight: 1, Pipes: make([]int, 100000)},
	} {
		list = append(list, network{pipes, []api.User{wrong}}, network{pipes, []api.User{wrong, users[1]}}, network{pipes, []api.User{users[0], wrong}})
	}
	return append(list, network{[]int{3}, users})
}

// P7.2, P7.3: ErrArg comes before ErrAnswer.
func TestWhatIsNoNetwork(t *testing.T) {
	for _, n := range wrongNetworks() {
		for _, rates := range [][]api.Frac{nil, {}, pairs([2]int{0, 1}), slices.Repeat(pairs([2]int{0, 1}), len(n.users)), pairs([2]int{0, 1}, [2]int{1, 0})} {
			for _, x := range networkCalls(n, rates, make([]int, len(rates))) {
				checkRefused(t, x, api.ErrArg, n.pipes, n.users, rates)
			}
		}
	}
}

// P7.2, P7.3: pipes and users of all numbers, and of the greatest and smallest capacities and weights, are accepted.
func TestWhatIsANetwork(t *testing.T) {
	for pipes := 1; pipes <= api.MaxPipes; pipes++ {
		for users := 1; users <= api.MaxUsers; users++ {
			for _, capacity := range []int{0, api.MaxFlow} {
				for _, weight := range []int{1, api.MaxHeavy} {
					for _, l := range [][]int{{0}, {pipes - 1}, subsets(pipes)[1<<pipes-2]} {
						n := network{slices.Repeat([]int{capacity}, pipes), slices.Repeat([]api.User{user(weight, l...)}, users)}
						rates := slices.Repeat(pairs([2]int{0, 1}), users)
						for _, x := range networkCalls(n, rates, slices.Repeat([]int{l[0]}, users)) {
							if r, e := x.run(); e != api.OK && (x.name != "Check" || capacity == 0) {
								t.Errorf("%s(%v) = %v, %d", x.name, n, r, e)
							}
						}
					}
				}
			}
		}
	}
}

// wrongRates are no rates for two users.
func wrongRates() [][]api.Frac {
	list := [][]api.Frac{nil, {}, pairs([2]int{0, 1}), pairs([2]int{0, 1}, [2]int{0, 1}, [2]int{0, 1}), make([]api.Frac, 2), make([]api.Frac, 100000), slices.Repeat(pairs([2]int{0, 1}), 100000)}
	for _, wrong := range pairs([2]int{0, 0}, [2]int{0, 2}, [2]int{1, 0}, [2]int{2, 2}, [2]int{2, 4}, [2]int{0, -1}, [2]int{-1, -1}, [2]int{1, -1}, [2]int{-1, 1}, [2]int{-1, 2}, [2]int{math.MinInt, 1}, [2]int{math.MinInt, math.MinInt}, [2]int{math.MinInt, -1}, [2]int{1, math.MinInt}, [2]int{math.MaxInt, math.MaxInt}, [2]int{0, math.MaxInt}, [2]int{math.MinInt, math.MaxInt}) {
		list = append(list, []api.Frac{wrong, frac(1, 1)}, []api.Frac{frac(1, 1), wrong})
	}
	return list
}

// P7.2
func TestRateErrors(t *testing.T) {
	n := network{[]int{3, 4}, []api.User{user(1, 0), user(2, 0, 1)}}
	beyond := pairs([2]int{1000001, 1}, [2]int{1, 101}, [2]int{1, 1000}, [2]int{1000001, 100}, [2]int{math.MaxInt, 1}, [2]int{1, math.MaxInt}, [2]int{math.MaxInt - 1, math.MaxInt}, [2]int{math.MaxInt, math.MaxInt - 1}, [2]int{1 << 32, 1}, [2]int{1, 1 << 32})
	for _, rates := range wrongRates() {
		for _, x := range rateCalls(n, rates, []int{0, 0}) {
			checkRefused(t, x, api.ErrAnswer, n, rates)
		}
	}
	for _, f := range beyond {
		for _, rates := range [][]api.Frac{{f, frac(0, 1)}, {frac(0, 1), f}, {f, f}} {
			for _, x := range rateCalls(n, rates, []int{0, 0}) {
				checkRefused(t, x, api.ErrAnswer, n, rates)
			}
		}
	}
	for _, f := range pairs([2]int{1000000, 1}, [2]int{1, 100}, [2]int{999999, 100}) {
		if l, e := shares.Load(n.pipes, n.users, []api.Frac{f, frac(0, 1)}); e != api.OK || l[0] != f {
			t.Errorf("Load of %v = %v, %d", f, l, e)
		}
	}
}
