package shares_test

import (
	"math"
	"math/big"
	"math/rand"
	"slices"
	"testing"

	"numnah/api"
	"numnah/shares"
)

// P7.2: the chapter's example, and equal levels, full pipes and those that nobody has.
func TestFairByHand(t *testing.T) {
	for _, x := range []struct {
		n     network
		rates [][2]int
		holds []int
	}{
		{network{[]int{10, 4}, []api.User{user(1, 0, 1), user(1, 0)}}, [][2]int{{4, 1}, {6, 1}}, []int{1, 0}},
		{network{[]int{10, 5}, []api.User{user(1, 0, 1), user(1, 0)}}, [][2]int{{5, 1}, {5, 1}}, []int{0, 0}},
		{network{[]int{10, 6}, []api.User{user(1, 0, 1), user(1, 0)}}, [][2]int{{5, 1}, {5, 1}}, []int{0, 0}},
		{network{[]int{10}, []api.User{user(1, 0), user(2, 0), user(4, 0)}}, [][2]int{{10, 7}, {20, 7}, {40, 7}}, []int{0, 0, 0}},
		{network{[]int{0, 7}, []api.User{user(1, 0, 1), user(3, 1)}}, [][2]int{{0, 1}, {7, 1}}, []int{0, 1}},
		{network{[]int{0}, []api.User{user(1, 0), user(4, 0)}}, [][2]int{{0, 1}, {0, 1}}, []int{0, 0}},
		{network{[]int{9, 6, 3}, []api.User{user(1, 1)}}, [][2]int{{6, 1}}, []int{1}},
		{network{[]int{5, 5}, []api.User{user(2, 0, 1)}}, [][2]int{{5, 1}}, []int{0}},
		{network{[]int{5, 4}, []api.User{user(2, 0, 1)}}, [][2]int{{4, 1}}, []int{1}},
		{network{[]int{1, 2, 3}, []api.User{user(1, 0, 1), user(1, 1, 2), user(1, 0, 2)}}, [][2]int{{1, 2}, {3, 2}, {1, 2}}, []int{0, 1, 0}},
	} {
		rates, holds, e := shares.Fair(x.n.pipes, x.n.users)
		if e != api.OK || !slices.Equal(rates, pairs(x.rates...)) || !slices.Equal(holds, x.holds) {
			t.Errorf("Fair(%v) = %v, %v, %d", x.n, rates, holds, e)
		}
	}
}

// P7.2, P3: possible rates that hold everybody are fair, and there are no others.
func TestFair(t *testing.T) {
	for _, n := range networks() {
		rates, holds, e := shares.Fair(n.pipes, n.users)
		if e != api.OK || len(rates) != len(n.users) || len(holds) != len(n.users) || slices.ContainsFunc(rates, func(f api.Frac) bool { return !isValid(f) || f.Num < 0 }) {
			t.Fatalf("Fair(%v) = %v, %v, %d", n, rates, holds, e)
		}
		if !n.arePossible(rats(rates)) {
			t.Errorf("Fair(%v) = %v: not possible", n, rates)
		}
		for user, pipe := range holds {
			if pipe < 0 || pipe != n.holder(user, rats(rates)) {
				t.Errorf("Fair(%v) = %v, %v: not the smallest pipe that holds %d", n, rates, holds, user)
			}
		}
		if e := shares.Check(n.pipes, n.users, rates, holds); e != api.OK {
			t.Errorf("Check(%v, %v, %v) = %d", n, rates, holds, e)
		}
	}
}

// checkCheck holds Check against the definition, for rates that are valid fractions.
func checkCheck(t *testing.T, n network, rates []*big.Rat, holds []int) {
	t.Helper()
	want := api.OK
	if !n.arePossible(rates) {
		want = api.ErrAnswer
	}
	for user, pipe := range holds {
		if !n.holds(pipe, user, rates) {
			want = api.ErrAnswer
		}
	}
	if e := shares.Check(n.pipes, n.users, fracs(rates), holds); e != want {
		t.Errorf("Check(%v, %v, %v) = %d, not %d", n, rates, holds, e, want)
	}
}

// P7.2: the fair rates with all holds that there might be, and changed rates.
func TestCheck(t *testing.T) {
	random := rand.New(rand.NewSource(13))
	for _, n := range slices.Concat(named(), someNetworks(13, 10)) {
		fair, holds, _ := shares.Fair(n.pipes, n.users)
		for user := range n.users {
			for pipe := -1; pipe <= len(n.pipes); pipe++ {
				others := slices.Clone(holds)
				others[user] = pipe
				checkCheck(t, n, rats(fair), others)
			}
			for _, factor := range []*big.Rat{new(big.Rat), big.NewRat(1, 2), big.NewRat(1001, 1000), big.NewRat(999, 1000)} {
				changed := rats(fair)
				changed[user] = times(changed[user], factor)
				checkCheck(t, n, changed, holds)
			}
			other := random.Intn(len(n.users))
			moved := rats(fair)
			part := half(moved[other])
			moved[other] = minus(moved[other], part)
			moved[user] = plus(moved[user], part)
			checkCheck(t, n, moved, holds)
		}
		checkCheck(t, n, rats(someRates(random, n)), holds)
	}
}

// P7.2: all rates of parts up to thirds, with all holds, for small networks: no others than the fair ones are accepted.
func TestCheckForSmallRates(t *testing.T) {
	for _, n := range smallNetworks() {
		if len(n.users) > 2 || n.pipes[0] > 2 {
			continue
		}
		for unit := 1; unit <= 3; unit++ {
			for _, parts := range tuples(len(n.users), 2*unit) {
				var rates []*big.Rat
				for _, part := range parts {
					rates = append(rates, big.NewRat(int64(part), int64(unit)))
				}
				for _, holds := range tuples(len(n.users), len(n.pipes)-1) {
					checkCheck(t, n, rates, holds)
				}
			}
		}
	}
}

// P7.2
func TestCheckErrors(t *testing.T) {
	n := network{[]int{10, 4}, []api.User{user(1, 0, 1), user(1, 0)}}
	fair := pairs([2]int{4, 1}, [2]int{6, 1})
	for _, holds := range [][]int{
		nil, {}, {1}, {0}, {1, 0, 0}, {1, 0, 1}, {0, 0}, {1, 1}, {0, 1}, {-1, 0}, {1, -1}, {2, 0}, {1, 2}, {math.MinInt, 0}, {math.MaxInt, 0}, {1, math.MinInt}, {1, math.MaxInt}, {1<<32 + 1, 0}, {1, 1 << 32}, make([]int, 100000),
	} {
		if e := shares.Check(n.pipes, n.users, fair, holds); e != api.ErrAnswer {
			t.Errorf("Check with %.100v = %d", holds, e)
		}
	}
	// Check has no limits for Num and Den: some of these rates are possible, or nearly so, and some fill the first pipe.
	great := math.MaxInt / 10
	for _, rates := range [][][2]int{
		{{4, 1}, {6*great - 1, great}}, {{4, 1}, {6*great + 1, great}}, {{4*great - 1, great}, {6, 1}}, {{4*great + 1, great}, {6, 1}}, {{4*great - 1, great}, {6*great + 1, great}}, {{4*great + 1, great}, {6*great - 1, great}}, {{math.MaxInt, 1}, {6, 1}}, {{4, 1}, {math.MaxInt, 1}}, {{1, math.MaxInt}, {1, math.MaxInt}}, {{math.MaxInt, math.MaxInt - 1}, {math.MaxInt - 1, math.MaxInt}},
		{{1<<62 + 1, 1 << 62}, {1<<62 - 1, 1 << 62}}, {{1<<32 + 4, 1}, {1<<32 + 6, 1}}, {{4, 1<<32 + 1}, {6, 1<<32 + 1}},
	} {
		checkCheck(t, n, rats(pairs(rates...)), []int{1, 0})
		checkCheck(t, n, rats(pairs(rates...)), []int{0, 0})
	}
	for _, rates := range [][][2]int{{{8, 2}, {6, 1}}, {{4, 1}, {12, 2}}, {{-4, -1}, {6, 1}}, {{4, 1}, {-6, -1}}} {
		if e := shares.Check(n.pipes, n.users, pairs(rates...), []int{1, 0}); e != api.ErrAnswer {
			t.Errorf("Check of %v = %d", rates, e)
		}
	}
}
