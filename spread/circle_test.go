package spread_test

import (
	"math"
	"math/big"
	"slices"
	"testing"

	"numnah/api"
	"numnah/spread"
)

// P3.4
func TestGapsByHand(t *testing.T) {
	for _, x := range []struct {
		scale  int
		points []int
		gaps   []int
	}{
		{1, []int{0}, []int{1}}, {1, []int{0, 0}, []int{1}}, {10, []int{3}, []int{10}}, {10, []int{3, 3, 3}, []int{10}}, {10, []int{0, 5}, []int{5}}, {10, []int{5, 0, 5, 0}, []int{5}},
		{10, []int{0, 3}, []int{3, 7}}, {10, []int{9, 0}, []int{1, 9}}, {10, []int{1, 2, 4, 7}, []int{1, 2, 3, 4}}, {10, []int{7, 1, 4, 2, 1}, []int{1, 2, 3, 4}}, {1000, []int{999}, []int{1000}}, {4, []int{3, 1, 0, 2}, []int{1}},
	} {
		if l, e := spread.Gaps(x.scale, x.points); e != api.OK || !slices.Equal(l, x.gaps) {
			t.Errorf("Gaps(%d, %v) = %v, %d", x.scale, x.points, l, e)
		}
	}
}

// P3.4
func TestGaps(t *testing.T) {
	for _, l := range variety() {
		if gaps, e := spread.Gaps(l.scale, l.points); e != api.OK || !slices.Equal(gaps, l.gapsOf()) {
			t.Errorf("Gaps(%d, %v) = %v, %d", l.scale, l.points, gaps, e)
		}
	}
}

// P3.4
func TestMovesByHand(t *testing.T) {
	for _, x := range []struct {
		scale, by     int
		points, moved []int
	}{
		{10, 0, []int{3, 1, 1}, []int{3, 1, 1}}, {10, 4, []int{9, 0, 5, 6, 9}, []int{3, 4, 9, 0, 3}}, {10, -4, []int{9, 0, 5, 3}, []int{5, 6, 1, 9}}, {10, 10, []int{9, 0}, []int{9, 0}}, {10, -10, []int{9, 0}, []int{9, 0}},
		{10, 1234567, []int{9, 0}, []int{6, 7}}, {10, -1234567, []int{9, 0}, []int{2, 3}}, {1, 7, []int{0, 0}, []int{0, 0}}, {1, math.MinInt, []int{0}, []int{0}},
		{10, math.MaxInt, []int{9, 0}, []int{6, 7}}, {10, math.MinInt, []int{9, 0}, []int{1, 2}}, {1000, math.MinInt, []int{999, 0}, []int{191, 192}},
	} {
		if l, e := spread.Move(x.scale, x.points, x.by); e != api.OK || !slices.Equal(l, x.moved) {
			t.Errorf("Move(%d, %v, %d) = %v, %d", x.scale, x.points, x.by, l, e)
		}
	}
}

// P3.4
func TestMoves(t *testing.T) {
	for _, l := range slices.Concat(smallLines(), someLines(60, 60), someLines(20, 1000)) {
		for _, by := range []int{0, 1, -1, 2, -7, l.scale - 1, l.scale, -l.scale, 1 - l.scale, 1000, -1001, 1 << 40, -1 << 40, math.MaxInt, math.MaxInt - 1, math.MinInt, math.MinInt + 1} {
			moved, e := spread.Move(l.scale, l.points, by)
			if e != api.OK || len(moved) != len(l.points) {
				t.Errorf("Move(%d, %v, %d) = %v, %d", l.scale, l.points, by, moved, e)
				continue
			}
			for i, x := range l.points {
				want := big.NewInt(int64(by))
				want.Add(want, big.NewInt(int64(x)))
				want.Mod(want, big.NewInt(int64(l.scale)))
				if int64(moved[i]) != want.Int64() {
					t.Errorf("Move(%d, %v, %d) = %v", l.scale, l.points, by, moved)
				}
			}
		}
	}
}
