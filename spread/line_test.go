package spread_test

import (
	"math"
	"slices"
	"testing"

	"numnah/api"
	"numnah/spread"
)

// P3.1
func TestLinesByHand(t *testing.T) {
	for _, x := range []struct {
		scale  int
		points []int
		f      api.Frac
		t      int
		below  bool
	}{
		{2, []int{0, 1}, api.Frac{Num: 1, Den: 2}, 0, false},
		{2, []int{1, 0}, api.Frac{Num: 1, Den: 2}, 0, false},
		{1, []int{0}, api.Frac{Num: 1, Den: 1}, 0, false},
		{1, []int{0, 0, 0}, api.Frac{Num: 1, Den: 1}, 0, false},
		{4, []int{1, 3}, api.Frac{Num: 1, Den: 4}, 1, true}, // the count up to 1 gives it, too
		{4, []int{0, 2}, api.Frac{Num: 1, Den: 2}, 0, false},
		{4, []int{3}, api.Frac{Num: 3, Den: 4}, 3, true},
		{4, []int{2}, api.Frac{Num: 1, Den: 2}, 2, true},
		{4, []int{1}, api.Frac{Num: 3, Den: 4}, 1, false},
		{1000, []int{999}, api.Frac{Num: 999, Den: 1000}, 999, true},
		{6, []int{2, 2, 5}, api.Frac{Num: 1, Den: 3}, 2, true}, // the count up to 2 gives it, too
		{6, []int{2, 2, 2}, api.Frac{Num: 2, Den: 3}, 2, false},
		{10, []int{0, 9}, api.Frac{Num: 1, Den: 2}, 0, false},
		{10, []int{1, 9}, api.Frac{Num: 2, Den: 5}, 1, false}, // 9 has it, too, but comes later
	} {
		if f, place, below, e := spread.Line(x.scale, x.points); f != x.f || place != x.t || below != x.below || e != api.OK {
			t.Errorf("Line(%d, %v) = %v, %d, %t, %d", x.scale, x.points, f, place, below, e)
		}
	}
}

// P3.1, P3, P4
func TestLines(t *testing.T) {
	for _, l := range variety() {
		greatest, place, below := l.discrepancy()
		f, at, is, e := spread.Line(l.scale, l.points)
		if e != api.OK || !isThat(f, greatest) || at != place || is != below {
			t.Errorf("Line(%d, %v) = %v, %d, %t, %d, not %v, %d, %t", l.scale, l.points, f, at, is, e, greatest, place, below)
		}
	}
}

// P3.1
func TestDeviationsByHand(t *testing.T) {
	for _, x := range []struct {
		scale  int
		points []int
		t      int
		f      api.Frac
	}{
		{2, []int{0, 1}, 0, api.Frac{Num: 1, Den: 2}},
		{2, []int{0, 1}, 1, api.Frac{Num: 1, Den: 2}},
		{2, []int{0, 1}, 2, api.Frac{Num: 0, Den: 1}},
		{4, []int{1, 3}, 0, api.Frac{Num: 0, Den: 1}},
		{4, []int{1, 3}, 2, api.Frac{Num: 0, Den: 1}},
		{4, []int{3}, 2, api.Frac{Num: 1, Den: 2}},
		{4, []int{3}, 3, api.Frac{Num: 3, Den: 4}},
		{6, []int{3, 3, 3, 5}, 3, api.Frac{Num: 1, Den: 2}}, // below; the count up to 3 gives 1/4
		{6, []int{0, 0, 3, 3}, 3, api.Frac{Num: 1, Den: 2}}, // up to 3; the count below gives 0
		{1, []int{0}, 1, api.Frac{Num: 0, Den: 1}},
	} {
		if f, e := spread.Deviation(x.scale, x.points, x.t); f != x.f || e != api.OK {
			t.Errorf("Deviation(%d, %v, %d) = %v, %d", x.scale, x.points, x.t, f, e)
		}
	}
}

// P3.1
func TestDeviations(t *testing.T) {
	for _, l := range variety() {
		for place := 0; place <= l.scale; place++ {
			if f, e := spread.Deviation(l.scale, l.points, place); e != api.OK || !isThat(f, l.deviation(place)) {
				t.Errorf("Deviation(%d, %v, %d) = %v, %d", l.scale, l.points, place, f, e)
			}
		}
	}
}

// P3.1
func TestDeviationErrors(t *testing.T) {
	for _, l := range []lineOf{{1, []int{0}}, {2, []int{0, 1}}, {999, []int{7, 7}}, {1000, []int{999}}} {
		for _, place := range []int{-1, l.scale + 1, l.scale + 2, -l.scale, 1001, math.MinInt, math.MinInt + 1, math.MaxInt} {
			if f, e := spread.Deviation(l.scale, l.points, place); e != api.ErrArg || f != (api.Frac{}) {
				t.Errorf("Deviation(%d, %v, %d) = %v, %d", l.scale, l.points, place, f, e)
			}
		}
	}
}

// P3.1
func TestIntervalsByHand(t *testing.T) {
	for _, x := range []struct {
		scale  int
		points []int
		f      api.Frac
		place  [2]int
	}{
		{1, []int{0}, api.Frac{Num: 0, Den: 1}, [2]int{0, 1}},
		{3, []int{2, 0, 1}, api.Frac{Num: 0, Den: 1}, [2]int{0, 1}},
		{2, []int{0, 1}, api.Frac{Num: 0, Den: 1}, [2]int{0, 1}},
		{2, []int{0}, api.Frac{Num: 1, Den: 2}, [2]int{0, 1}},
		{3, []int{0}, api.Frac{Num: 2, Den: 3}, [2]int{0, 1}},
		{3, []int{1}, api.Frac{Num: 2, Den: 3}, [2]int{1, 2}},
		{3, []int{2}, api.Frac{Num: 2, Den: 3}, [2]int{0, 2}}, // 2, 3 gives it, too
		{4, []int{1, 1, 3}, api.Frac{Num: 5, Den: 12}, [2]int{1, 2}},
		{1000, []int{500}, api.Frac{Num: 999, Den: 1000}, [2]int{500, 501}},
	} {
		if f, place, e := spread.Interval(x.scale, x.points); f != x.f || place != x.place || e != api.OK {
			t.Errorf("Interval(%d, %v) = %v, %v, %d", x.scale, x.points, f, place, e)
		}
	}
}

// P3.1, P3, P4
func TestIntervals(t *testing.T) {
	for _, l := range slices.Concat(smallLines(), someLines(400, 12), someLines(200, 60), someLines(20, 200), evenLines()[6:60]) {
		greatest, place := l.interval()
		if f, at, e := spread.Interval(l.scale, l.points); e != api.OK || !isThat(f, greatest) || at != place {
			t.Errorf("Interval(%d, %v) = %v, %v, %d, not %v, %v", l.scale, l.points, f, at, e, greatest, place)
		}
	}
}

// P3.1: the greatest scale.
func TestLongIntervals(t *testing.T) {
	for _, l := range append(someLines(6, 1000), evenLines()[:6]...) {
		greatest, place := l.interval()
		if f, at, e := spread.Interval(l.scale, l.points); e != api.OK || !isThat(f, greatest) || at != place {
			t.Errorf("Interval(%d, %v) = %v, %v, %d, not %v, %v", l.scale, l.points, f, at, e, greatest, place)
		}
	}
}
