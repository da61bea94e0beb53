package spread_test

import (
	"math"
	"testing"

	"numnah/api"
	"numnah/spread"
)

// P3.2
func TestSheetsByHand(t *testing.T) {
	for _, x := range []struct {
		scale  int
		points [][2]int
		f      api.Frac
		place  [2]int
		open   bool
	}{
		{1, [][2]int{{0, 0}}, api.Frac{Num: 1, Den: 1}, [2]int{0, 0}, false},
		{2, [][2]int{{0, 0}}, api.Frac{Num: 1, Den: 1}, [2]int{0, 0}, false},
		{2, [][2]int{{1, 1}}, api.Frac{Num: 3, Den: 4}, [2]int{1, 1}, false},
		{3, [][2]int{{2, 2}}, api.Frac{Num: 2, Den: 3}, [2]int{2, 3}, true}, // 3, 2 gives it, too
		{3, [][2]int{{2, 1}}, api.Frac{Num: 7, Den: 9}, [2]int{2, 1}, false},
		{4, [][2]int{{3, 3}}, api.Frac{Num: 3, Den: 4}, [2]int{3, 4}, true},
		{10, [][2]int{{9, 0}}, api.Frac{Num: 1, Den: 1}, [2]int{9, 0}, false},
		{2, [][2]int{{0, 1}, {1, 0}}, api.Frac{Num: 3, Den: 4}, [2]int{1, 1}, false},
		{2, [][2]int{{0, 0}, {1, 1}}, api.Frac{Num: 3, Den: 4}, [2]int{1, 1}, false},
		{100, [][2]int{{99, 99}}, api.Frac{Num: 99, Den: 100}, [2]int{99, 100}, true},
		// The closed count gives it at the same place, too.
		{6, [][2]int{{1, 3}, {4, 1}, {5, 5}}, api.Frac{Num: 1, Den: 3}, [2]int{4, 3}, true},
		{12, [][2]int{{9, 3}, {2, 8}}, api.Frac{Num: 1, Den: 2}, [2]int{9, 8}, true},
	} {
		if f, place, open, e := spread.Sheet(x.scale, x.points); f != x.f || place != x.place || open != x.open || e != api.OK {
			t.Errorf("Sheet(%d, %v) = %v, %v, %t, %d", x.scale, x.points, f, place, open, e)
		}
	}
}

// P3.2, P3, P4
func TestSheets(t *testing.T) {
	both, opens, closeds := 0, 0, 0
	for _, a := range varietyOfSheets() {
		greatest, place, open := a.discrepancy()
		f, at, is, e := spread.Sheet(a.scale, a.points)
		if e != api.OK || !isThat(f, greatest) || at != place || is != open {
			t.Errorf("Sheet(%d, %v) = %v, %v, %t, %d, not %v, %v, %t", a.scale, a.points, f, at, is, e, greatest, place, open)
		}
		closed := place[0] < a.scale && place[1] < a.scale && a.byClosed(place[0], place[1]).Cmp(greatest) == 0
		switch {
		case open && closed:
			both++
		case open:
			opens++
		default:
			closeds++
		}
	}
	if both == 0 || opens == 0 || closeds == 0 {
		t.Errorf("the sheets leave out a kind of witness: %d of both counts, %d of the open one, %d of the closed one", both, opens, closeds)
	}
}

// P3.2
func TestWhatIsNoSheet(t *testing.T) {
	for _, a := range []sheetOf{
		{1, nil}, {1, [][2]int{}}, {100, nil}, {0, nil}, {101, nil},
		{0, [][2]int{{0, 0}}}, {-1, [][2]int{{0, 0}}}, {101, [][2]int{{0, 0}}}, {1000, [][2]int{{0, 0}}}, {math.MinInt, [][2]int{{0, 0}}}, {math.MaxInt, [][2]int{{0, 0}}},
		{1, [][2]int{{1, 0}}}, {1, [][2]int{{0, 1}}}, {5, [][2]int{{-1, 0}}}, {5, [][2]int{{0, -1}}}, {5, [][2]int{{5, 0}}}, {5, [][2]int{{0, 5}}}, {5, [][2]int{{4, 4}, {0, 0}, {2, 6}}},
		{100, [][2]int{{100, 0}}}, {100, [][2]int{{0, 100}}}, {100, [][2]int{{math.MinInt, 0}}}, {100, [][2]int{{0, math.MinInt}}}, {100, [][2]int{{math.MaxInt, 0}}}, {100, [][2]int{{0, math.MaxInt}}},
		{100, make([][2]int, 61)}, {1, make([][2]int, 61)}, {100, make([][2]int, 100000)},
	} {
		if f, place, open, e := spread.Sheet(a.scale, a.points); e != api.ErrArg || f != (api.Frac{}) || place != [2]int{} || open {
			t.Errorf("Sheet(%d, %v) = %v, %v, %t, %d", a.scale, a.points, f, place, open, e)
		}
	}
}
