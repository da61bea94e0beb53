package card_test

import (
	"slices"
	"strings"
	"testing"

	"numnah/api"
	"numnah/card"
)

// sizes returns the numbers of the primes, of the cubes of a cover and of the points of Apart.
func sizes(t *testing.T, function string) (primes, cover, apart int) {
	t.Helper()
	a, e := card.Primes(function)
	b, f := card.Cover(function)
	c, g := card.Apart(function)
	if e != api.OK || f != api.OK || g != api.OK {
		t.Errorf("%s: errors %d, %d, %d", function, e, f, g)
	}
	return len(a), len(b), len(c)
}

// P1.6
func TestCoversAreNotSmallerThanApart(t *testing.T) {
	for _, f := range slices.Concat(smallFunctions("01-"), someFunctions("01-", 4, 300), someFunctions("01", 5, 300), someFunctions("01-", 5, 300)) {
		primes, cover, apart := sizes(t, f)
		if cover < apart || cover > primes || (apart == 0) != !strings.Contains(f, "1") {
			t.Errorf("%s: %d primes, %d cubes, %d points", f, primes, cover, apart)
		}
	}
}

// P1.6
func TestSumOfSum(t *testing.T) {
	for _, f := range slices.Concat(smallFunctions("01"), words("01", 16), someFunctions("01", 5, 500)) {
		s, _ := card.Sum(f)
		if back, e := card.Sum(s); back != f || e != api.OK {
			t.Errorf("Sum(Sum(%s)) = %s, %d", f, back, e)
		}
	}
}

// P1.6
func TestMeasuresAreBounded(t *testing.T) {
	for _, f := range slices.Concat(smallFunctions("01"), someFunctions("01", 4, 1000), someFunctions("01", 5, 300)) {
		m, e := card.Measures(f)
		if e != api.OK || m.Sensitivity > m.Certificate || m.Certificate > varsOf(f) || m.Degree > varsOf(f) {
			t.Errorf("Measures(%s) = %v, %d", f, m, e)
		}
	}
}

// P1.6
func TestTurningKeepsSizes(t *testing.T) {
	for _, f := range slices.Concat(words("01-", 4), someFunctions("01-", 3, 20), someFunctions("01-", 4, 5), someFunctions("01-", 5, 1), someFunctions("01", 5, 1)) {
		primes, cover, _ := sizes(t, f)
		for _, order := range orders(varsOf(f)) {
			for _, flips := range subsets(varsOf(f)) {
				g, _ := card.Turn(f, order, flips)
				if p, c, _ := sizes(t, g); p != primes || c != cover {
					t.Errorf("%s has %d primes and a cover of %d, but %s has %d and %d", f, primes, cover, g, p, c)
				}
			}
		}
	}
}

// P1.6
func TestTurningKeepsWeights(t *testing.T) {
	for _, f := range slices.Concat(words("01", 4), words("01", 8), someFunctions("01", 4, 20), someFunctions("01", 5, 2)) {
		has := hasWeights(t, f)
		for _, order := range orders(varsOf(f)) {
			for _, flips := range subsets(varsOf(f)) {
				if g, _ := card.Turn(f, order, flips); hasWeights(t, g) != has {
					t.Errorf("one of %s and %s has weights", f, g)
				}
			}
		}
	}
}

// P1.6
func TestWeightsMakeMonotone(t *testing.T) {
	for _, f := range slices.Concat(smallFunctions("01"), words("01", 16)) {
		if hasWeights(t, f) && !someTurnIsMonotone(f) {
			t.Errorf("%s has weights, but is never monotone", f)
		}
	}
}

func someTurnIsMonotone(function string) bool {
	order := []int{0, 1, 2, 3, 4}[:varsOf(function)]
	return slices.ContainsFunc(subsets(varsOf(function)), func(flips []int) bool {
		g, _ := card.Turn(function, order, flips)
		p, i, e := card.Monotone(g)
		return p == -1 && i == -1 && e == api.OK
	})
}
