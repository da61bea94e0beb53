package sample_test

import (
	"math"
	"math/rand"
	"testing"

	"numnah/api"
	"numnah/sample"
)

// P5.2
func TestDoublesByHand(t *testing.T) {
	for _, x := range []struct {
		lot, bad     int
		plan         [5]int
		chance, mean api.Frac
	}{
		{2, 0, [5]int{1, 0, 2, 1, 1}, api.Frac{Num: 1, Den: 1}, api.Frac{Num: 1, Den: 1}},
		{2, 1, [5]int{1, 0, 2, 1, 1}, api.Frac{Num: 1, Den: 1}, api.Frac{Num: 3, Den: 2}},
		{2, 2, [5]int{1, 0, 2, 1, 1}, api.Frac{Num: 0, Den: 1}, api.Frac{Num: 2, Den: 1}},
		{4, 2, [5]int{2, 0, 2, 1, 1}, api.Frac{Num: 1, Den: 2}, api.Frac{Num: 8, Den: 3}}, // 1/6 at once, and 4/6 go on, half of which are accepted
		{4, 2, [5]int{2, 0, 2, 2, 1}, api.Frac{Num: 1, Den: 6}, api.Frac{Num: 10, Den: 3}},
		{4, 2, [5]int{2, 0, 3, 2, 3}, api.Frac{Num: 1, Den: 1}, api.Frac{Num: 11, Den: 3}},
		{36, 36, [5]int{18, 0, 19, 18, 35}, api.Frac{Num: 0, Den: 1}, api.Frac{Num: 36, Den: 1}},
		{36, 18, [5]int{18, 0, 19, 18, 18}, api.Frac{Num: 1, Den: 1}, api.Frac{Num: 6*9075135300 - 3, Den: 9075135300 / 6}},
	} {
		if chance, mean, e := sample.Double(x.lot, x.bad, x.plan); chance != x.chance || mean != x.mean || e != api.OK {
			t.Errorf("Double(%d, %d, %v) = %v, %v, %d", x.lot, x.bad, x.plan, chance, mean, e)
		}
	}
}

func checkDouble(t *testing.T, lot, bad int, plan [5]int, want *tally) {
	t.Helper()
	chance, mean, e := sample.Double(lot, bad, plan)
	if e != api.OK || !isThat(chance, want.chance()) || !isThat(mean, want.mean) {
		t.Errorf("Double(%d, %d, %v) = %v, %v, %d, not %v, %v", lot, bad, plan, chance, mean, e, want.chance(), want.mean)
	}
}

// checkMerge checks that a merged course does in all the ways what the double plan does, and returns it.
func checkMerge(t *testing.T, lot int, plan [5]int, ways []uint) api.Course {
	t.Helper()
	c, e := sample.Merge(lot, plan)
	if e != api.OK || len(c.Accept) != plan[0]+plan[3] || !isCourse(lot, c) || sample.Fits(lot, c) != api.OK {
		t.Fatalf("Merge(%d, %v) = %v, %d", lot, plan, c, e)
	}
	for _, way := range ways {
		v, i, _ := examine(way, doubleSays(plan))
		if w, j, _ := examine(way, courseSays(c)); v != w || i != j {
			t.Errorf("Merge(%d, %v) = %v: %d after %d pieces of %b, not %d after %d", lot, plan, c, w, j, way, v, i)
		}
	}
	return c
}

// P5.2, P5.4, P5.5: all double plans of small lots, in all ways.
func TestDoublesOfSmallLots(t *testing.T) {
	for lot := 2; lot <= 7; lot++ {
		for _, plan := range doubles(lot) {
			for bad := 0; bad <= lot; bad++ {
				want := enumerated(lot, bad, doubleSays(plan))
				checkDouble(t, lot, bad, plan, want)
				c := checkMerge(t, lot, plan, placings(lot, bad))
				checkCourse(t, lot, bad, c, want)
			}
		}
	}
}

// P5.2, P5.4, P5.5
func TestDoublesOfAllLots(t *testing.T) {
	random := rand.New(rand.NewSource(4))
	for lot := 2; lot <= api.MaxLot; lot++ {
		for range 20 {
			plan := someDouble(random, lot)
			ways := make([]uint, 200)
			for i := range ways {
				ways[i] = uint(random.Int63()) & (1<<lot - 1)
				if i%2 > 0 {
					ways[i] &= uint(random.Int63())
				}
			}
			bad := random.Intn(lot + 1)
			want := drawn(lot, bad, doubleSays(plan))
			checkDouble(t, lot, bad, plan, want)
			checkCourse(t, lot, bad, checkMerge(t, lot, plan, ways), want)
		}
	}
}

func checkDoubleErrors(t *testing.T, lot, bad int, plan [5]int) {
	t.Helper()
	if f, g, e := sample.Double(lot, bad, plan); e != api.ErrArg || f != (api.Frac{}) || g != (api.Frac{}) {
		t.Errorf("Double(%d, %d, %v) = %v, %v, %d", lot, bad, plan, f, g, e)
	}
}

func checkMergeErrors(t *testing.T, lot int, plan [5]int) {
	t.Helper()
	if c, e := sample.Merge(lot, plan); e != api.ErrArg || len(c.Accept)+len(c.Reject) > 0 {
		t.Errorf("Merge(%d, %v) = %v, %d", lot, plan, c, e)
	}
}

// P5.2, P5.4: all numbers around the limits of small lots.
func TestWhatIsADouble(t *testing.T) {
	const lot = 3
	count := 0
	for x := range 7 * 7 * 7 * 7 * 7 {
		plan := [5]int{x%7 - 1, x/7%7 - 1, x/49%7 - 1, x/343%7 - 1, x/2401 - 1}
		if !isDouble(lot, plan) {
			checkDoubleErrors(t, lot, 1, plan)
			checkMergeErrors(t, lot, plan)
			continue
		}
		count++
		_, _, e := sample.Double(lot, 1, plan)
		if _, o := sample.Merge(lot, plan); e != api.OK || o != api.OK {
			t.Errorf("Double and Merge of %v: %d, %d", plan, e, o)
		}
	}
	if count != len(doubles(lot)) {
		t.Errorf("%d double plans, and not %d", count, len(doubles(lot)))
	}
}

// P5.2, P5.4
func TestDoubleErrors(t *testing.T) {
	plan := [5]int{1, 0, 2, 1, 1}
	for _, lot := range append(wrongLots(), 1) {
		checkDoubleErrors(t, lot, 0, plan)
		checkDoubleErrors(t, lot, lot, plan)
		checkMergeErrors(t, lot, plan)
		checkMergeErrors(t, lot, [5]int{lot - 1, 0, 2, 1, 1})
	}
	for _, lot := range []int{2, 3, 20, 36} {
		for _, bad := range wrongBad(lot) {
			checkDoubleErrors(t, lot, bad, plan)
		}
	}
	// Each number of a plan is replaced by ones that are far outside of the limits, alone and in pairs.
	far := []int{math.MinInt, math.MinInt + 1, math.MinInt + 2, -1 << 32, -1, 37, 38, 1 << 32, math.MaxInt - 2, math.MaxInt - 1, math.MaxInt}
	for _, plan := range [][5]int{{1, 0, 2, 1, 1}, {18, 3, 7, 18, 8}, {35, 0, 36, 1, 35}, {1, 0, 2, 35, 35}} {
		for i := range 5 {
			for j := range 5 {
				for _, x := range far {
					for _, y := range far {
						wrong := plan
						wrong[i], wrong[j] = x, y
						checkDoubleErrors(t, 36, 18, wrong)
						checkMergeErrors(t, 36, wrong)
					}
				}
			}
		}
	}
}
