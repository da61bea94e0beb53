package strip_test

import (
	"math/big"
	"math/rand"
	"slices"
	"testing"

	"numnah/api"
	"numnah/strip"
)

// walksIn returns the number of walks of so many steps in what Steps returns.
func walksIn(steps [][]int, length int) *big.Int {
	numbers := make([]*big.Int, len(steps))
	for i := range numbers {
		numbers[i] = big.NewInt(1)
	}
	for range length {
		longer := make([]*big.Int, len(steps))
		for i, list := range steps {
			longer[i] = new(big.Int)
			for _, j := range list {
				longer[i].Add(longer[i], numbers[j])
			}
		}
		numbers = longer
	}
	return total(numbers)
}

// P4.6
func TestCountIsTheNumberOfWalks(t *testing.T) {
	for i, r := range slices.Concat(smallRules(), someRules(100)) {
		for m := 1; m <= 4; m++ {
			n := 1 + (7*i+m)%api.MaxLong
			steps, _ := strip.Steps(r, m)
			count, e := strip.Count(r, m, n)
			if number := walksIn(steps, n-1); e == api.OK && number.Cmp(big.NewInt(int64(count))) != 0 || e != api.OK && e != api.ErrFull {
				t.Errorf("Count(%v, %d, %d) = %d, %d, but there are %v walks", r, m, n, count, e, number)
			}
		}
	}
}

// P4.6
func TestTurnedStripsAreAsMany(t *testing.T) {
	for _, r := range slices.Concat([]api.Rule{hardSquares(), falling(), twoParts()}, smallRules(), someRules(60)) {
		turned, _ := strip.Turn(r)
		for m := 1; m <= api.MaxWide; m++ {
			for n := 1; n <= api.MaxWide; n++ {
				count, e := strip.Count(r, m, n)
				other, o := strip.Count(turned, n, m)
				if count != other || e != api.OK || o != api.OK {
					t.Errorf("Count(%v, %d, %d) = %d, %d, but %d, %d if it is turned", r, m, n, count, e, other, o)
				}
			}
		}
	}
}

// P4.6
func TestNoStripBringsMoreThanTheBest(t *testing.T) {
	random := rand.New(rand.NewSource(6))
	for i, r := range slices.Concat([]api.Rule{hardSquares(), proper(), twoParts()}, smallRules(), someRules(100)) {
		m, n := 1+i%5, 1+random.Intn(10)
		weights := weightsOf(random, r.Q, m, n, api.MaxGain)
		best, most, e := strip.Best(r, weights)
		count, full := strip.Count(r, m, n)
		if full != api.OK {
			continue
		}
		if (count == 0) != (e == api.ErrNone) || e == api.OK && (most != brings(weights, best) || !isKept(r, best)) {
			t.Errorf("Best(%v, %v) = %q, %d, %d", r, weights, best, most, e)
		}
		for range min(count, 20) {
			if s, _ := strip.Item(r, m, n, random.Intn(count)); brings(weights, s) > most {
				t.Errorf("Best(%v, %v) brings %d, but %q brings %d", r, weights, most, s, brings(weights, s))
			}
		}
	}
}

// P4.6
func TestThereIsARingExactlyIfThereIsNoLongest(t *testing.T) {
	for x := 0; x < 1<<18; x += 97 {
		for m := 1; m <= 3; m++ {
			longest, _ := strip.Longest(ruleOf(3, x), m)
			if ring, e := strip.Ever(ruleOf(3, x), m); (longest == -1) != (e == api.OK) {
				t.Errorf("rule %d, %d columns: Longest = %d, Ever = %q, %d", x, m, longest, ring, e)
			}
		}
	}
}
