package sample_test

import (
	"math"
	"math/big"
	"testing"

	"numnah/api"
	"numnah/sample"
)

// P5.1
func TestWaysByHand(t *testing.T) {
	for _, x := range []struct{ lot, bad, ways int }{
		{1, 0, 1}, {1, 1, 1}, {4, 2, 6}, {10, 5, 252}, {10, 3, 120}, {36, 0, 1}, {36, 36, 1}, {36, 1, 36}, {36, 18, 9075135300}, {35, 17, 4537567650},
	} {
		if ways, e := sample.Ways(x.lot, x.bad); ways != x.ways || e != api.OK {
			t.Errorf("Ways(%d, %d) = %d, %d", x.lot, x.bad, ways, e)
		}
	}
}

// P5.1
func TestWays(t *testing.T) {
	for lot := 1; lot <= 10; lot++ {
		for bad := 0; bad <= lot; bad++ {
			if ways, e := sample.Ways(lot, bad); ways != len(placings(lot, bad)) || e != api.OK {
				t.Errorf("Ways(%d, %d) = %d, %d", lot, bad, ways, e)
			}
		}
	}
	for lot := 1; lot <= api.MaxLot; lot++ {
		for bad := 0; bad <= lot; bad++ {
			want := new(big.Int).Binomial(int64(lot), int64(bad))
			if ways, e := sample.Ways(lot, bad); big.NewInt(int64(ways)).Cmp(want) != 0 || e != api.OK {
				t.Errorf("Ways(%d, %d) = %d, %d, not %v", lot, bad, ways, e, want)
			}
		}
	}
}

// P5.1
func TestSinglesByHand(t *testing.T) {
	for _, x := range []struct {
		lot, bad, n, c int
		chance         api.Frac
	}{
		{4, 2, 2, 0, api.Frac{Num: 1, Den: 6}},
		{4, 2, 2, 1, api.Frac{Num: 5, Den: 6}},
		{10, 5, 3, 0, api.Frac{Num: 1, Den: 12}},
		{1, 0, 1, 0, api.Frac{Num: 1, Den: 1}},
		{1, 1, 1, 0, api.Frac{Num: 0, Den: 1}},
		{36, 18, 18, 0, api.Frac{Num: 1, Den: 9075135300}},
		{36, 18, 18, 17, api.Frac{Num: 9075135299, Den: 9075135300}},
		{36, 36, 36, 35, api.Frac{Num: 0, Den: 1}},
		{36, 35, 36, 35, api.Frac{Num: 1, Den: 1}},
	} {
		if f, e := sample.Single(x.lot, x.bad, x.n, x.c); f != x.chance || e != api.OK {
			t.Errorf("Single(%d, %d, %d, %d) = %v, %d", x.lot, x.bad, x.n, x.c, f, e)
		}
	}
}

// product is the number of ways to place k bad pieces among n, times that to place l among m.
func product(n, k, m, l int) *big.Int {
	if l < 0 {
		return new(big.Int)
	}
	return new(big.Int).Mul(new(big.Int).Binomial(int64(n), int64(k)), new(big.Int).Binomial(int64(m), int64(l)))
}

// byCounting returns the chance that a single plan accepts and the mean number of bad pieces that it accepts unseen, from how many ways have each number of bad pieces among the first n.
func byCounting(lot, bad, n, c int) (*big.Rat, *big.Rat) {
	accepted, left, all := new(big.Int), new(big.Int), new(big.Int)
	for k := 0; k <= min(n, bad); k++ {
		ways := product(n, k, lot-n, bad-k)
		all.Add(all, ways)
		if k <= c {
			accepted.Add(accepted, ways)
			left.Add(left, new(big.Int).Mul(ways, big.NewInt(int64(bad-k))))
		}
	}
	return new(big.Rat).SetFrac(accepted, all), new(big.Rat).SetFrac(left, all)
}

// checkSingle holds Single, Curve and Left against chances and means that are given for each number of bad pieces.
func checkSingle(t *testing.T, lot, n, c int, want func(bad int) (*big.Rat, *big.Rat)) {
	t.Helper()
	curve, e := sample.Curve(lot, n, c)
	if e != api.OK || len(curve) != lot+1 {
		t.Fatalf("Curve(%d, %d, %d) = %v, %d", lot, n, c, curve, e)
	}
	greatest, first := big.NewRat(-1, 1), 0
	for bad := 0; bad <= lot; bad++ {
		chance, left := want(bad)
		if left.Cmp(greatest) > 0 {
			greatest, first = left, bad
		}
		if f, e := sample.Single(lot, bad, n, c); e != api.OK || !isThat(f, chance) {
			t.Errorf("Single(%d, %d, %d, %d) = %v, %d, not %v", lot, bad, n, c, f, e, chance)
		}
		if !isThat(curve[bad], chance) {
			t.Errorf("Curve(%d, %d, %d) is %v at %d, not %v", lot, n, c, curve[bad], bad, chance)
		}
	}
	if f, bad, e := sample.Left(lot, n, c); e != api.OK || bad != first || !isThat(f, greatest) {
		t.Errorf("Left(%d, %d, %d) = %v, %d, %d, not %v, %d", lot, n, c, f, bad, e, greatest, first)
	}
}

// P5.1, P4: all ways of small lots.
func TestSinglesOfSmallLots(t *testing.T) {
	for lot := 1; lot <= 9; lot++ {
		for _, s := range singles(lot) {
			checkSingle(t, lot, s[0], s[1], func(bad int) (*big.Rat, *big.Rat) {
				w := enumerated(lot, bad, singleSays(s[0], s[1]))
				return w.chance(), w.left
			})
		}
	}
}

// P5.1, P4: all single plans.
func TestSinglesOfAllLots(t *testing.T) {
	for lot := 1; lot <= api.MaxLot; lot++ {
		for _, s := range singles(lot) {
			checkSingle(t, lot, s[0], s[1], func(bad int) (*big.Rat, *big.Rat) { return byCounting(lot, bad, s[0], s[1]) })
		}
	}
}

// P5.1: the greatest lot, piece after piece.
func TestSinglesPieceAfterPiece(t *testing.T) {
	for _, s := range [][2]int{{1, 0}, {2, 0}, {2, 1}, {7, 3}, {18, 9}, {20, 0}, {20, 19}, {35, 17}, {36, 0}, {36, 18}, {36, 35}} {
		checkSingle(t, 36, s[0], s[1], func(bad int) (*big.Rat, *big.Rat) {
			w := drawn(36, bad, singleSays(s[0], s[1]))
			return w.chance(), w.left
		})
	}
}

// P5.1
func TestLeftByHand(t *testing.T) {
	for _, x := range []struct {
		lot, n, c int
		f         api.Frac
		bad       int
	}{
		{1, 1, 0, api.Frac{Num: 0, Den: 1}, 0},
		{2, 1, 0, api.Frac{Num: 1, Den: 2}, 1},
		{3, 1, 0, api.Frac{Num: 2, Den: 3}, 1}, // two bad pieces give it, too
		{3, 2, 1, api.Frac{Num: 2, Den: 3}, 2},
		{4, 2, 0, api.Frac{Num: 1, Den: 2}, 1},
		{36, 36, 35, api.Frac{Num: 0, Den: 1}, 0},
		{36, 36, 0, api.Frac{Num: 0, Den: 1}, 0},
		{36, 1, 0, api.Frac{Num: 9, Den: 1}, 18},
	} {
		if f, bad, e := sample.Left(x.lot, x.n, x.c); f != x.f || bad != x.bad || e != api.OK {
			t.Errorf("Left(%d, %d, %d) = %v, %d, %d", x.lot, x.n, x.c, f, bad, e)
		}
	}
}

// wrongLots are numbers of pieces that no lot has.
func wrongLots() []int {
	return []int{0, -1, -36, 37, 38, 64, 1000, 1 << 32, 1<<32 + 1, math.MaxInt, math.MaxInt - 1, math.MinInt, math.MinInt + 1}
}

// wrongBad are numbers of bad pieces that a lot does not have.
func wrongBad(lot int) []int {
	return []int{-1, -lot, lot + 1, lot + 2, 37, 1 << 32, math.MaxInt, math.MinInt, math.MinInt + 1}
}

// wrongSingles are no single plans for a lot.
func wrongSingles(lot int) [][2]int {
	return [][2]int{
		{0, 0}, {0, -1}, {1, -1}, {1, 1}, {1, 2}, {lot, lot}, {lot, -1}, {lot + 1, 0}, {lot + 1, lot}, {lot + 1, 1}, {37, 0}, {-1, -2}, {-1, 0}, {-2, -1},
		{math.MaxInt, 0}, {math.MaxInt, math.MaxInt - 1}, {math.MinInt, 0}, {math.MinInt, math.MaxInt}, {1, math.MinInt}, {lot, math.MaxInt}, {lot, math.MinInt}, {1<<32 + 1, 0}, {lot, 1 << 32},
	}
}

// P5.1
func TestSingleErrors(t *testing.T) {
	check := func(lot, bad, n, c int) {
		t.Helper()
		if f, e := sample.Single(lot, bad, n, c); e != api.ErrArg || f != (api.Frac{}) {
			t.Errorf("Single(%d, %d, %d, %d) = %v, %d", lot, bad, n, c, f, e)
		}
	}
	checkPlan := func(lot, n, c int) {
		t.Helper()
		if l, e := sample.Curve(lot, n, c); e != api.ErrArg || len(l) > 0 {
			t.Errorf("Curve(%d, %d, %d) = %v, %d", lot, n, c, l, e)
		}
		if f, bad, e := sample.Left(lot, n, c); e != api.ErrArg || f != (api.Frac{}) || bad != 0 {
			t.Errorf("Left(%d, %d, %d) = %v, %d, %d", lot, n, c, f, bad, e)
		}
		if course, e := sample.Curtail(lot, n, c); e != api.ErrArg || len(course.Accept)+len(course.Reject) > 0 {
			t.Errorf("Curtail(%d, %d, %d) = %v, %d", lot, n, c, course, e)
		}
	}
	for _, lot := range wrongLots() {
		check(lot, 0, 1, 0)
		check(lot, lot, 1, 0)
		check(lot, -1, 0, -1)
		checkPlan(lot, 1, 0)
		checkPlan(lot, lot, 0)
		checkPlan(lot, lot, lot-1)
	}
	for _, lot := range []int{1, 2, 5, 35, 36} {
		for _, bad := range wrongBad(lot) {
			check(lot, bad, 1, 0)
			check(lot, bad, lot, lot-1)
		}
		for _, s := range wrongSingles(lot) {
			check(lot, 0, s[0], s[1])
			check(lot, lot, s[0], s[1])
			check(lot, -1, s[0], s[1])
			checkPlan(lot, s[0], s[1])
		}
	}
}

// P5.1
func TestWaysErrors(t *testing.T) {
	check := func(lot, bad int) {
		t.Helper()
		if ways, e := sample.Ways(lot, bad); ways != 0 || e != api.ErrArg {
			t.Errorf("Ways(%d, %d) = %d, %d", lot, bad, ways, e)
		}
	}
	for _, lot := range wrongLots() {
		check(lot, 0)
		check(lot, lot)
		check(lot, 1)
	}
	for lot := 1; lot <= api.MaxLot; lot++ {
		for _, bad := range wrongBad(lot) {
			check(lot, bad)
		}
	}
}
