package card_test

import (
	"math"
	"slices"
	"strings"
	"testing"

	"numnah/api"
	"numnah/card"
)

// P1.5
func TestMonotone(t *testing.T) {
	for _, f := range slices.Concat(smallFunctions("01"), words("01", 16), someFunctions("01", 5, 1000)) {
		point, variable := monotoneOf(f)
		if p, i, e := card.Monotone(f); p != point || i != variable || e != api.OK {
			t.Errorf("Monotone(%s) = %d, %d, %d, want %d, %d", f, p, i, e, point, variable)
		}
	}
}

// P1.5
func TestMonotoneByHand(t *testing.T) {
	for _, x := range []struct {
		function        string
		point, variable int
	}{
		{"0110", 1, 1}, {"0111", -1, -1}, {"01", -1, -1}, {"10", 0, 0}, {"11", -1, -1}, {"00", -1, -1},
		{"1011", 0, 0}, {"1101", 0, 1}, {"1001", 0, 0}, {"0010", 2, 0}, {"0100", 1, 1}, {"00010111", -1, -1},
		{strings.Repeat("1", 32), -1, -1}, {strings.Repeat("0", 32), -1, -1}, {strings.Repeat("0", 31) + "1", -1, -1},
		{strings.Repeat("0", 30) + "10", 30, 0}, {strings.Repeat("1", 31) + "0", 15, 4}, {parity(5), 1, 1},
	} {
		if p, i, e := card.Monotone(x.function); p != x.point || i != x.variable || e != api.OK {
			t.Errorf("Monotone(%s) = %d, %d, %d, want %d, %d", x.function, p, i, e, x.point, x.variable)
		}
	}
}

// P1.5
func TestTurn(t *testing.T) {
	for _, f := range slices.Concat(words("01-", 2), words("01-", 4), someFunctions("01-", 3, 50), someFunctions("01-", 4, 5), someFunctions("01-", 5, 2)) {
		for _, order := range orders(varsOf(f)) {
			for _, flips := range subsets(varsOf(f)) {
				want := turned(f, order, flips)
				if s, e := card.Turn(f, order, flips); s != want || e != api.OK {
					t.Errorf("Turn(%s, %v, %v) = %s, %d, want %s", f, order, flips, s, e, want)
				}
				slices.Reverse(flips)
				if s, e := card.Turn(f, order, flips); s != want || e != api.OK {
					t.Errorf("Turn(%s, %v, %v) = %s, %d, want %s", f, order, flips, s, e, want)
				}
			}
		}
	}
}

// P1.5
func TestTurnByHand(t *testing.T) {
	for _, x := range []struct {
		function     string
		order, flips []int
		want         string
	}{
		{"0010", []int{1, 0}, nil, "0100"},
		{"0010", []int{1, 0}, []int{0}, "1000"},
		{"0010", []int{0, 1}, []int{0}, "0001"},
		{"0010", []int{0, 1}, []int{1}, "1000"},
		{"0010", []int{0, 1}, []int{1, 0}, "0100"},
		{"01", []int{0}, []int{}, "01"},
		{"0-", []int{0}, []int{0}, "-0"},
		// The variables 1, 2 and 0 of the given function are the variables 0, 1 and 2.
		{"0100-000", []int{1, 2, 0}, nil, "00-01000"},
		{"0100-000", []int{1, 2, 0}, []int{0}, "000-0100"},
	} {
		if s, e := card.Turn(x.function, x.order, x.flips); s != x.want || e != api.OK {
			t.Errorf("Turn(%s, %v, %v) = %s, %d, want %s", x.function, x.order, x.flips, s, e, x.want)
		}
	}
}

// P1.5
func TestTurnOfWrongLists(t *testing.T) {
	for _, x := range []struct{ order, flips []int }{
		{nil, nil}, {[]int{}, nil}, {[]int{0}, nil}, {[]int{1}, nil}, {[]int{0, 1, 2}, nil}, {[]int{0, 1, 0}, nil},
		{[]int{0, 0}, nil}, {[]int{1, 1}, nil}, {[]int{1, 2}, nil}, {[]int{0, 2}, nil}, {[]int{-1, 0}, nil}, {[]int{1, -1}, nil},
		{[]int{math.MaxInt, math.MinInt}, nil}, {[]int{0, 64}, nil}, {make([]int, 1000), nil},
		{[]int{0, 1}, []int{2}}, {[]int{0, 1}, []int{-1}}, {[]int{0, 1}, []int{0, 0}}, {[]int{0, 1}, []int{1, 1}},
		{[]int{0, 1}, []int{0, 1, 0}}, {[]int{0, 1}, []int{0, 1, 2}}, {[]int{0, 1}, []int{5}}, {[]int{0, 1}, []int{64}},
		{[]int{0, 1}, []int{math.MinInt}}, {[]int{0, 1}, []int{math.MaxInt}}, {[]int{0, 1}, make([]int, 1000)},
	} {
		if s, e := card.Turn("0010", x.order, x.flips); s != "" || e != api.ErrArg {
			t.Errorf("Turn(0010, %v, %v) = %q, %d", x.order, x.flips, s, e)
		}
	}
}
