package sample_test

import (
	"math/big"
	"testing"

	"numnah/api"
	"numnah/sample"
)

// P5.5, P5: all single plans.
func TestChancesDoNotGrowWithBadPieces(t *testing.T) {
	for lot := 1; lot <= api.MaxLot; lot++ {
		for _, s := range singles(lot) {
			curve, e := sample.Curve(lot, s[0], s[1])
			for bad := 1; bad < len(curve); bad++ {
				if e != api.OK || valueOf(curve[bad]).Cmp(valueOf(curve[bad-1])) > 0 {
					t.Errorf("Curve(%d, %d, %d) = %v, %d", lot, s[0], s[1], curve, e)
				}
			}
		}
	}
}

// P5.5, P5: all single plans.
func TestChancesDoNotShrinkWithC(t *testing.T) {
	for lot := 1; lot <= api.MaxLot; lot++ {
		for n := 2; n <= lot; n++ {
			before, _ := sample.Curve(lot, n, 0)
			for c := 1; c < n; c++ {
				curve, e := sample.Curve(lot, n, c)
				for bad := range curve {
					if e != api.OK || valueOf(curve[bad]).Cmp(valueOf(before[bad])) < 0 {
						t.Errorf("Curve(%d, %d, %d) = %v, %d, but with the c before it %v", lot, n, c, curve, e, before)
					}
				}
				before = curve
			}
		}
	}
}

// P5.5, P5: all single plans.
func TestSurePlans(t *testing.T) {
	for lot := 1; lot <= api.MaxLot; lot++ {
		for _, s := range singles(lot) {
			n, c := s[0], s[1]
			for bad := 0; bad <= lot; bad++ {
				f, e := sample.Single(lot, bad, n, c)
				accepts, rejects := f == api.Frac{Num: 1, Den: 1}, f == api.Frac{Num: 0, Den: 1}
				if e != api.OK || accepts != (bad <= c) || rejects != (bad > lot-n+c) {
					t.Errorf("Single(%d, %d, %d, %d) = %v, %d", lot, bad, n, c, f, e)
				}
			}
		}
	}
}

// P5.5, P5: what a plan does not accept, its curtailed course rejects.
func TestPlansAcceptOrReject(t *testing.T) {
	for _, lot := range []int{1, 2, 3, 7, 12, 19, 36} {
		for _, s := range singles(lot) {
			n, c := s[0], s[1]
			course, _ := sample.Curtail(lot, n, c)
			for bad := 0; bad <= lot; bad += 1 + lot/8 {
				f, _ := sample.Single(lot, bad, n, c)
				sum := new(big.Rat).Set(valueOf(f))
				_, rejected, e := sample.Chances(lot, bad, course)
				for _, g := range rejected {
					sum.Add(sum, valueOf(g))
				}
				if e != api.OK || sum.Cmp(whole(1)) != 0 {
					t.Errorf("Single(%d, %d, %d, %d) = %v, but it rejects with %v, %d", lot, bad, n, c, f, rejected, e)
				}
			}
		}
	}
}

// checkCurtailed checks that a curtailed course has the chance of its plan, and a mean number from 1 to n.
func checkCurtailed(t *testing.T, lot, bad, n, c int) {
	t.Helper()
	course, _ := sample.Curtail(lot, n, c)
	want, _ := sample.Single(lot, bad, n, c)
	chance, mean, e := sample.Course(lot, bad, course)
	if e != api.OK || chance != want || valueOf(mean).Cmp(whole(n)) > 0 || valueOf(mean).Cmp(whole(1)) < 0 {
		t.Errorf("Course(%d, %d, %v) = %v, %v, %d, but the plan has %v", lot, bad, course, chance, mean, e, want)
	}
}

// P5.5, P5
func TestCurtailedCoursesDoWhatTheirPlansDo(t *testing.T) {
	for _, lot := range []int{1, 2, 3, 4, 5, 6, 7, 8, 9, 10, 11, 12, 23, 36} {
		for _, s := range singles(lot) {
			for bad := 0; bad <= lot; bad++ {
				checkCurtailed(t, lot, bad, s[0], s[1])
			}
		}
	}
}

// P5.5, P5: all double plans of lots up to 10.
func TestMergedCoursesDoWhatTheirPlansDo(t *testing.T) {
	for lot := 2; lot <= 10; lot++ {
		for _, plan := range doubles(lot) {
			c, _ := sample.Merge(lot, plan)
			for bad := 0; bad <= lot; bad++ {
				chance, mean, e := sample.Double(lot, bad, plan)
				if f, g, o := sample.Course(lot, bad, c); f != chance || g != mean || e != api.OK || o != api.OK {
					t.Errorf("Double(%d, %d, %v) = %v, %v, %d, but Course of %v is %v, %v, %d", lot, bad, plan, chance, mean, e, c, f, g, o)
				}
			}
		}
	}
}
