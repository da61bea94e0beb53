package sample_test

import (
	"math"
	"math/big"
	"testing"

	"numnah/api"
	"numnah/sample"
)

func valueOf(f api.Frac) *big.Rat {
	return big.NewRat(int64(f.Num), int64(f.Den))
}

// fractions returns all valid fractions from 0/1 to 1/1 with denominators up to the given one.
func fractions(den int) []api.Frac {
	var list []api.Frac
	for d := 1; d <= den; d++ {
		for n := 0; n <= d; n++ {
			f := valueOf(api.Frac{Num: n, Den: d})
			if f.Denom().Int64() == int64(d) {
				list = append(list, api.Frac{Num: n, Den: d})
			}
		}
	}
	return list
}

// curves holds for a lot the chances of all its single plans, in the order of singles.
func curves(lot int) [][]*big.Rat {
	var list [][]*big.Rat
	for _, s := range singles(lot) {
		var curve []*big.Rat
		for bad := 0; bad <= lot; bad++ {
			chance, _ := byCounting(lot, bad, s[0], s[1])
			curve = append(curve, chance)
		}
		list = append(list, curve)
	}
	return list
}

// firstPlan returns the first single plan of the lot that is enough, or 0, 0.
func firstPlan(lot int, curves [][]*big.Rat, good, bad int, least, most api.Frac) [2]int {
	for i, s := range singles(lot) {
		if curves[i][good].Cmp(valueOf(least)) >= 0 && curves[i][bad].Cmp(valueOf(most)) <= 0 {
			return s
		}
	}
	return [2]int{}
}

func checkPlan(t *testing.T, lot int, curves [][]*big.Rat, good, bad int, least, most api.Frac) bool {
	t.Helper()
	s := firstPlan(lot, curves, good, bad, least, most)
	none := s == [2]int{}
	n, c, e := sample.Plan(lot, good, bad, least, most)
	if n != s[0] || c != s[1] || none && e != api.ErrNone || !none && e != api.OK {
		t.Errorf("Plan(%d, %d, %d, %v, %v) = %d, %d, %d, not %v", lot, good, bad, least, most, n, c, e, s)
	}
	return !none
}

// P5.3
func TestPlansByHand(t *testing.T) {
	zero, one, half := api.Frac{Num: 0, Den: 1}, api.Frac{Num: 1, Den: 1}, api.Frac{Num: 1, Den: 2}
	for _, x := range []struct {
		lot, good, bad int
		least, most    api.Frac
		n, c           int
		e              api.Errno
	}{
		{10, 0, 5, one, api.Frac{Num: 1, Den: 10}, 3, 0, api.OK},
		{10, 0, 5, one, api.Frac{Num: 1, Den: 12}, 3, 0, api.OK}, // exactly the chance
		{10, 0, 5, one, api.Frac{Num: 83, Den: 1000}, 4, 0, api.OK},
		{1, 0, 1, one, zero, 1, 0, api.OK},
		{1, 1, 0, one, zero, 0, 0, api.ErrNone},
		{1, 0, 0, zero, one, 1, 0, api.OK},
		{36, 18, 18, zero, one, 1, 0, api.OK},
		{36, 18, 18, half, half, 1, 0, api.OK}, // exactly the chance, both times
		{36, 18, 18, api.Frac{Num: 501, Den: 1000}, half, 0, 0, api.ErrNone},
		{36, 18, 18, half, api.Frac{Num: 499, Den: 1000}, 0, 0, api.ErrNone},
		{36, 17, 18, one, zero, 36, 17, api.OK},
		{36, 0, 1, one, zero, 36, 0, api.OK},
		{36, 35, 36, one, zero, 36, 35, api.OK},
		{36, 36, 36, one, one, 0, 0, api.ErrNone},
		{36, 36, 0, zero, zero, 0, 0, api.ErrNone},
		{4, 1, 4, one, zero, 2, 1, api.OK}, // no c smaller than 1 is enough
	} {
		if n, c, e := sample.Plan(x.lot, x.good, x.bad, x.least, x.most); n != x.n || c != x.c || e != x.e {
			t.Errorf("Plan(%d, %d, %d, %v, %v) = %d, %d, %d", x.lot, x.good, x.bad, x.least, x.most, n, c, e)
		}
	}
}

// P5.3, P4: the chances of small lots are among the ones that are asked for.
func TestPlansOfSmallLots(t *testing.T) {
	asked := fractions(10)
	for lot := 1; lot <= 5; lot++ {
		list := curves(lot)
		for good := 0; good <= lot; good++ {
			for bad := 0; bad <= lot; bad++ {
				for _, least := range asked {
					for _, most := range asked {
						checkPlan(t, lot, list, good, bad, least, most)
					}
				}
			}
		}
	}
}

// P5.3, P4
func TestPlansOfAllLots(t *testing.T) {
	fracs := []api.Frac{{Num: 0, Den: 1}, {Num: 1, Den: 1000}, {Num: 1, Den: 100}, {Num: 1, Den: 10}, {Num: 1, Den: 12}, {Num: 1, Den: 3}, {Num: 1, Den: 2}, {Num: 500, Den: 999}, {Num: 3, Den: 4}, {Num: 9, Den: 10}, {Num: 19, Den: 20}, {Num: 99, Den: 100}, {Num: 999, Den: 1000}, {Num: 1, Den: 1}}
	found, none := 0, 0
	for _, lot := range []int{6, 7, 8, 9, 10, 13, 17, 24, 30, 36} {
		list := curves(lot)
		for good := 0; good <= lot; good += 1 + lot/5 {
			for bad := lot; bad >= 0; bad -= 1 + lot/7 {
				for _, least := range fracs {
					for _, most := range fracs {
						if checkPlan(t, lot, list, good, bad, least, most) {
							found++
						} else {
							none++
						}
					}
				}
			}
		}
	}
	if found < 1000 || none < 1000 {
		t.Errorf("%d plans, and %d times none", found, none)
	}
}

// wrongFractions are no chances that can be asked for.
func wrongFractions() []api.Frac {
	return []api.Frac{
		{}, {Num: 1}, {Num: 0, Den: 2}, {Num: 0, Den: 1000}, {Num: 2, Den: 2}, {Num: 2, Den: 4}, {Num: 1000, Den: 1000}, {Num: 500, Den: 1000}, {Num: 3, Den: 9},
		{Num: 2, Den: 1}, {Num: 3, Den: 2}, {Num: 1001, Den: 1000}, {Num: -1, Den: 1}, {Num: -1, Den: 2}, {Num: 1, Den: -1}, {Num: -1, Den: -1}, {Num: -1, Den: -2}, {Num: 0, Den: -1},
		{Num: 1, Den: 1001}, {Num: 1000, Den: 1001}, {Num: 1, Den: 1 << 32}, {Num: math.MaxInt, Den: math.MaxInt}, {Num: 1, Den: math.MaxInt}, {Num: math.MaxInt, Den: 1}, {Num: math.MinInt, Den: 1},
		{Num: math.MinInt, Den: math.MinInt}, {Num: 1, Den: math.MinInt}, {Num: 0, Den: math.MinInt}, {Num: math.MinInt, Den: 0}, {Num: math.MinInt, Den: -1}, {Num: math.MaxInt, Den: math.MaxInt - 1},
	}
}

// P5.3: ErrArg comes before ErrNone.
func TestPlanErrors(t *testing.T) {
	zero, one := api.Frac{Num: 0, Den: 1}, api.Frac{Num: 1, Den: 1}
	check := func(lot, good, bad int, least, most api.Frac) {
		t.Helper()
		if n, c, e := sample.Plan(lot, good, bad, least, most); n != 0 || c != 0 || e != api.ErrArg {
			t.Errorf("Plan(%d, %d, %d, %v, %v) = %d, %d, %d", lot, good, bad, least, most, n, c, e)
		}
	}
	for _, lot := range wrongLots() {
		check(lot, 0, 0, zero, one)
		check(lot, 0, 0, one, zero)
		check(lot, lot, lot, one, zero)
		check(lot, 0, lot, one, zero)
	}
	for _, lot := range []int{1, 2, 10, 36} {
		for _, wrong := range wrongBad(lot) {
			check(lot, wrong, 0, zero, one)
			check(lot, 0, wrong, zero, one)
			check(lot, wrong, 0, one, zero)
			check(lot, lot, wrong, one, zero)
		}
		for _, wrong := range wrongFractions() {
			check(lot, 0, lot, wrong, one)
			check(lot, 0, lot, zero, wrong)
			check(lot, lot, 0, wrong, zero)
			check(lot, lot, 0, one, wrong)
			check(lot, lot, 0, wrong, wrong)
		}
	}
}

// P5.3: the ends of the limits of fractions.
func TestFractionsOfPlans(t *testing.T) {
	for _, f := range []api.Frac{{Num: 0, Den: 1}, {Num: 1, Den: 1}, {Num: 1, Den: 1000}, {Num: 999, Den: 1000}, {Num: 998, Den: 999}, {Num: 1, Den: 2}} {
		if n, c, e := sample.Plan(36, 0, 36, f, f); n != 1 || c != 0 || e != api.OK {
			t.Errorf("Plan(36, 0, 36, %v, %v) = %d, %d, %d", f, f, n, c, e)
		}
	}
}
