package roller_test

import (
	"math"
	"slices"
	"testing"

	"numnah/api"
	"numnah/roller"
)

// P2.3
func TestPowersByHand(t *testing.T) {
	golden := [][]int{{0, 1}, {1, 1}}
	for _, x := range []struct {
		m     [][]int
		k     int
		power [][]int
	}{
		{golden, 0, [][]int{{1, 0}, {0, 1}}},
		{golden, 1, golden},
		{golden, 2, [][]int{{1, 1}, {1, 2}}},
		{golden, 10, [][]int{{34, 55}, {55, 89}}},
		{[][]int{{0}}, 0, [][]int{{1}}},
		{[][]int{{0}}, 100, [][]int{{0}}},
		{[][]int{{1}}, 100, [][]int{{1}}},
		{[][]int{{2}}, 60, [][]int{{1 << 60}}},
		{[][]int{{8}}, 20, [][]int{{1 << 60}}},
		{[][]int{{1, 2}, {3, 4}}, 2, [][]int{{7, 10}, {15, 22}}},
	} {
		if p, e := roller.Power(x.m, x.k); e != api.OK || !slices.EqualFunc(p, x.power, slices.Equal) {
			t.Errorf("Power(%v, %d) = %v, %d", x.m, x.k, p, e)
		}
	}
	for _, x := range []struct {
		m [][]int
		k int
	}{
		{[][]int{{2}}, 61}, {[][]int{{2}}, 62}, {[][]int{{2}}, 63}, {[][]int{{2}}, 64}, {[][]int{{2}}, 100},
		{[][]int{{8}}, 21}, {[][]int{{9}}, 19}, {[][]int{{9}}, 100}, {golden, 100},
		{square(8, func(i, j int) int { return 9 }), 11}, {square(8, func(i, j int) int { return 9 }), 100},
	} {
		if p, e := roller.Power(x.m, x.k); e != api.ErrFull || len(p) != 0 {
			t.Errorf("Power(%v, %d) = %v, %d", x.m, x.k, p, e)
		}
	}
}

// P2.3
func TestPowers(t *testing.T) {
	list := slices.Concat(sparse(), allMatrices(1, 10), allMatrices(2, 3))
	for size := 2; size <= api.MaxRollers; size++ {
		list = append(list, someMatrices(size, 30)...)
	}
	for _, m := range list {
		full := false
		for k, power := range powersOf(m, api.MaxWalk) {
			full = full || isFull(power)
			p, e := roller.Power(m, k)
			if full && (e != api.ErrFull || len(p) != 0) || !full && (e != api.OK || !sameNumbers(power, p)) {
				t.Errorf("Power(%v, %d) = %v, %d", m, k, p, e)
			}
		}
	}
}

// P2.3: the power 70 has a number that is too great, but the power 71 has none.
func TestPowersAfterAFullOne(t *testing.T) {
	m := [][]int{{0, 0, 0, 0}, {1, 0, 9, 0}, {9, 0, 0, 3}, {0, 0, 1, 0}}
	powers := powersOf(m, 71)
	if isFull(powers[69]) || !isFull(powers[70]) || isFull(powers[71]) {
		t.Fatalf("%v is not such a matrix", m)
	}
	if p, e := roller.Power(m, 69); e != api.OK || !sameNumbers(powers[69], p) {
		t.Errorf("Power(%v, 69) = %v, %d", m, p, e)
	}
	for _, k := range []int{70, 71} {
		if p, e := roller.Power(m, k); e != api.ErrFull || len(p) != 0 {
			t.Errorf("Power(%v, %d) = %v, %d", m, k, p, e)
		}
	}
}

// P2.3
func TestPowerErrors(t *testing.T) {
	for _, m := range [][][]int{{{1}}, {{9}}, {{0, 1}, {1, 0}}} {
		for _, k := range []int{-1, 101, math.MinInt, math.MaxInt} {
			if p, e := roller.Power(m, k); e != api.ErrArg || len(p) != 0 {
				t.Errorf("Power(%v, %d) = %v, %d", m, k, p, e)
			}
		}
	}
}

// P2.3
func TestExponentsByHand(t *testing.T) {
	for _, x := range []struct {
		m        [][]int
		exponent int
		err      api.Errno
	}{
		{[][]int{{0, 1}, {1, 1}}, 2, api.OK},
		{[][]int{{0, 1}, {1, 0}}, 0, api.ErrNone},
		{[][]int{{1, 1}, {0, 1}}, 0, api.ErrNone},
		{[][]int{{1, 0}, {0, 1}}, 0, api.ErrNone},
		{[][]int{{2, 3}, {4, 5}}, 1, api.OK},
		{[][]int{{1}}, 1, api.OK},
		{[][]int{{0}}, 0, api.ErrNone},
	} {
		if k, e := roller.Exponent(x.m); k != x.exponent || e != x.err {
			t.Errorf("Exponent(%v) = %d, %d", x.m, k, e)
		}
	}
}

// P2.3
func TestExponents(t *testing.T) {
	for _, m := range variety() {
		exponent := exponentOf(m)
		k, e := roller.Exponent(m)
		if k != exponent || exponent > 0 && e != api.OK || exponent == 0 && e != api.ErrNone {
			t.Errorf("Exponent(%v) = %d, %d", m, k, e)
		}
	}
}
