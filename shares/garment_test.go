package shares_test

import (
	"math"
	"math/big"
	"math/rand"
	"slices"
	"testing"

	"numnah/api"
	"numnah/shares"
)

// P7.1: the chapter's example, and the estates at which the rule changes.
func TestGarmentByHand(t *testing.T) {
	for _, x := range []struct {
		estate, a, b  int
		first, second api.Frac
	}{
		{100, 50, 100, frac(25, 1), frac(75, 1)},
		{100, 100, 50, frac(75, 1), frac(25, 1)},
		{50, 50, 100, frac(25, 1), frac(25, 1)},
		{51, 50, 100, frac(25, 1), frac(26, 1)},
		{101, 50, 100, frac(51, 2), frac(151, 2)},
		{150, 50, 100, frac(50, 1), frac(100, 1)},
		{0, 50, 100, frac(0, 1), frac(0, 1)},
		{0, 0, 0, frac(0, 1), frac(0, 1)},
		{7, 0, 9, frac(0, 1), frac(7, 1)},
		{1, 1, 1, frac(1, 2), frac(1, 2)},
		{2000, 1000, 1000, frac(1000, 1), frac(1000, 1)},
	} {
		if f, g, e := shares.Garment(x.estate, x.a, x.b); e != api.OK || f != x.first || g != x.second {
			t.Errorf("Garment(%d, %d, %d) = %v, %v, %d", x.estate, x.a, x.b, f, g, e)
		}
	}
}

// P7.1
func TestGarment(t *testing.T) {
	claims := [][]int{{1000, 1000}, {1000, 999}, {0, 1000}, {333, 334}}
	for _, c := range append(claims, tuples(2, 12)...) {
		for estate := range c[0] + c[1] + 1 {
			first, second := garment(whole(estate), whole(c[0]), whole(c[1]))
			if f, g, e := shares.Garment(estate, c[0], c[1]); e != api.OK || !isThat(f, first) || !isThat(g, second) {
				t.Errorf("Garment(%d, %d, %d) = %v, %v, %d, not %v, %v", estate, c[0], c[1], f, g, e, first, second)
			}
		}
	}
}

// P7.1
func TestGarmentErrors(t *testing.T) {
	for _, x := range [][3]int{
		{-1, 0, 0}, {1, 0, 0}, {4, 1, 2}, {2001, 1000, 1000}, {0, -1, 0}, {0, 0, -1}, {0, 1, -1}, {1, 1001, 5}, {1, 5, 1001}, {-1, -1, -1}, {0, -1, 1},
		{math.MinInt, 1, 1}, {math.MaxInt, 1, 1}, {0, math.MinInt, 1}, {0, 1, math.MinInt}, {1, math.MaxInt, 1}, {1, 1, math.MaxInt}, {0, math.MaxInt, math.MaxInt}, {0, math.MinInt, math.MinInt}, {0, math.MaxInt, math.MinInt}, {1 << 32, 1 << 32, 1},
	} {
		if f, g, e := shares.Garment(x[0], x[1], x[2]); e != api.ErrArg || f != (api.Frac{}) || g != (api.Frac{}) {
			t.Errorf("Garment(%d, %d, %d) = %v, %v, %d", x[0], x[1], x[2], f, g, e)
		}
	}
}

// checkAgrees holds Agrees against the definition, for an award.
func checkAgrees(t *testing.T, h heirs, shared []*big.Rat) {
	t.Helper()
	pair, none := disagreement(h.claims, shared)
	e := api.OK
	for _, r := range shared {
		if r.Denom().Int64() > api.MaxShare {
			pair, none, e = [2]int{}, false, api.ErrAnswer
		}
	}
	if p, is, o := shares.Agrees(h.claims, h.estate, fracs(shared)); p != pair || is != none || o != e {
		t.Errorf("Agrees(%v, %d, %v) = %v, %v, %d, not %v, %v, %d", h.claims, h.estate, shared, p, is, o, pair, none, e)
	}
}

// awards are all awards whose shares are whole numbers divided by unit.
func awards(h heirs, unit int) [][]*big.Rat {
	list := [][]*big.Rat{nil}
	left := []int{h.estate * unit}
	for i, c := range h.claims {
		var longer [][]*big.Rat
		var rest []int
		for j, l := range list {
			for x := 0; x <= min(c*unit, left[j]); x++ {
				if i < len(h.claims)-1 || x == left[j] {
					longer = append(longer, append(slices.Clone(l), big.NewRat(int64(x), int64(unit))))
					rest = append(rest, left[j]-x)
				}
			}
		}
		list, left = longer, rest
	}
	return list
}

// P7.1: all awards of parts up to quarters for up to three claims up to 3, so that the sums of two shares are not always whole.
func TestAgreesForSmallAwards(t *testing.T) {
	for _, claims := range slices.Concat(tuples(1, 3), tuples(2, 3), tuples(3, 3)) {
		for estate := range sumOf(claims) + 1 {
			h := heirs{claims, estate}
			for unit := 1; unit <= 4; unit++ {
				for _, shared := range awards(h, unit) {
					checkAgrees(t, h, shared)
				}
			}
		}
	}
}

// P7.1: the awards of the rules.
func TestAgreesForRules(t *testing.T) {
	for _, h := range slices.Concat(smallHeirs(), someHeirs(5, 30)) {
		for rule := range 5 {
			checkAgrees(t, h, award(rule, h.claims, h.estate))
		}
	}
}

// P7.1: awards with all denominators up to the limit, which are the Talmud's but for two shares.
func TestAgreesForGreatDenominators(t *testing.T) {
	random := rand.New(rand.NewSource(6))
	for _, h := range someHeirs(6, 20) {
		shared := award(3, h.claims, h.estate)
		i, j := random.Intn(len(shared)), random.Intn(len(shared))
		if i == j {
			continue
		}
		part := big.NewRat(int64(1+random.Intn(40)), int64(1+random.Intn(20)))
		part = smaller(part, smaller(shared[j], minus(whole(h.claims[i]), shared[i])))
		shared[i], shared[j] = plus(shared[i], part), minus(shared[j], part)
		checkAgrees(t, h, shared)
	}
}

// P7.1: the shares have all denominators that are allowed at once, so far as ten are enough.
func TestAgreesForManyDenominators(t *testing.T) {
	claims := slices.Repeat([]int{1000}, 10)
	shared := []*big.Rat{big.NewRat(1, 19), big.NewRat(18, 19), big.NewRat(1, 17), big.NewRat(16, 17), big.NewRat(9999, 13), big.NewRat(3014, 13), big.NewRat(1, 20), big.NewRat(19, 20), big.NewRat(2, 11), big.NewRat(20, 11)}
	checkAgrees(t, heirs{claims, 1006}, shared)
	if p, is, e := shares.Agrees(claims, 1006, fracs(shared)); p != [2]int{0, 1} || is || e != api.OK {
		t.Errorf("Agrees = %v, %v, %d", p, is, e)
	}
}

// P7.1: a share with a Den that is too great for Agrees is right all the same.
func TestGreatDenominators(t *testing.T) {
	for _, x := range []struct {
		claims []int
		e      api.Errno
	}{{[]int{1, 19}, api.OK}, {[]int{1, 20}, api.ErrAnswer}, {[]int{20, 1}, api.ErrAnswer}} {
		l, _ := shares.Award(0, x.claims, 1)
		if e := shares.Right(0, x.claims, 1, l); e != api.OK {
			t.Errorf("Right(0, %v, 1, %v) = %d", x.claims, l, e)
		}
		if _, is, e := shares.Agrees(x.claims, 1, l); is || e != x.e {
			t.Errorf("Agrees(%v, 1, %v) = %v, %d", x.claims, l, is, e)
		}
	}
}

// P7.1: what is no award.
func TestAgreesErrors(t *testing.T) {
	claims := []int{1, 2, 3}
	for _, list := range [][][2]int{
		nil, {}, {{1, 1}}, {{1, 1}, {2, 1}}, {{1, 1}, {1, 1}, {1, 1}, {0, 1}}, {{0, 1}, {0, 1}}, make([][2]int, 3), make([][2]int, 100000),
		// Not valid.
		{{0, 1}, {0, 2}, {3, 1}}, {{0, 1}, {2, 2}, {2, 1}}, {{1, 1}, {-1, -1}, {1, 1}}, {{1, 1}, {1, 0}, {1, 1}}, {{2, 4}, {1, 2}, {2, 1}}, {{0, 1}, {0, 0}, {3, 1}}, {{0, 1}, {0, -1}, {3, 1}},
		// Less than 0, or greater than the claim.
		{{-1, 1}, {1, 1}, {3, 1}}, {{1, 1}, {-1, 1}, {3, 1}}, {{2, 1}, {0, 1}, {1, 1}}, {{0, 1}, {3, 1}, {0, 1}}, {{3, 2}, {1, 1}, {1, 2}}, {{-1, 2}, {2, 1}, {3, 2}},
		// Another sum.
		{{0, 1}, {0, 1}, {0, 1}}, {{1, 1}, {1, 1}, {2, 1}}, {{1, 1}, {1, 1}, {0, 1}}, {{1, 2}, {1, 2}, {1, 1}}, {{1, 3}, {1, 3}, {7, 3}, {0, 1}}, {{1, 3}, {1, 3}, {2, 1}}, {{1, 1}, {2, 1}, {3, 1}},
		// Too great a Den.
		{{1, 21}, {20, 21}, {2, 1}}, {{1, 1}, {1, 22}, {43, 22}}, {{0, 1}, {1, math.MaxInt}, {3, 1}},
		{{math.MinInt, 1}, {1, 1}, {1, 1}}, {{math.MaxInt, 1}, {1, 1}, {1, 1}}, {{1, 1}, {math.MaxInt, 2}, {math.MinInt, 1}}, {{1, math.MinInt}, {1, 1}, {1, 1}}, {{math.MinInt, math.MinInt}, {1, 1}, {1, 1}}, {{math.MinInt, -1}, {1, 1}, {1, 1}}, {{math.MaxInt, math.MaxInt - 1}, {1, 1}, {1, 1}}, {{1 << 32, 1}, {1, 1}, {1, 1}},
	} {
		award := pairs(list...)
		if p, is, e := shares.Agrees(claims, 3, award); e != api.ErrAnswer || is || p != [2]int{} {
			t.Errorf("Agrees(%v, 3, %.200v) = %v, %v, %d", claims, award, p, is, e)
		}
		for rule := range 5 {
			if e := shares.Right(rule, claims, 3, award); e != api.ErrAnswer {
				t.Errorf("Right(%d, %v, 3, %.200v) = %d", rule, claims, award, e)
			}
		}
	}
}
