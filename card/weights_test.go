package card_test

import (
	"math"
	"slices"
	"strings"
	"testing"

	"numnah/api"
	"numnah/card"
)

// hasWeights reports whether the function has weights, and checks what Weights returns against the definitions.
func hasWeights(t *testing.T, function string) bool {
	t.Helper()
	w, l, e := card.Weights(function)
	if e != api.OK || len(w) > 0 && len(l) > 0 {
		t.Errorf("Weights(%s) = %v, %v, %d", function, w, l, e)
	}
	if len(w) == 0 {
		if !isBalance(function, l) || card.Balance(function, l) != api.OK {
			t.Errorf("Weights(%s) gives the balance %v, and Balance = %d", function, l, card.Balance(function, l))
		}
		return false
	}
	if !realizes(function, w) || card.Realize(function, w) != api.OK {
		t.Errorf("Weights(%s) gives %v, and Realize = %d", function, w, card.Realize(function, w))
	}
	return true
}

// P1.4: it is known how many functions have weights.
func TestWeightsOfAllFunctions(t *testing.T) {
	for n, known := range []int{4, 14, 104, 1882} {
		count := 0
		for _, f := range words("01", 2<<n) {
			if hasWeights(t, f) {
				count++
			}
		}
		if count != known {
			t.Errorf("%d functions of %d variables have weights, not %d", count, n+1, known)
		}
	}
}

// P1.4: every function of five variables without a balance of two points against two has weights. There are 94572, as it is known.
func TestWeightsOfFiveVariables(t *testing.T) {
	count := 0
	var values [32]byte
	var assign func(point int)
	assign = func(point int) {
		if point == len(values) {
			count++
			if !hasWeights(t, string(values[:])) {
				t.Errorf("%s has no weights", values)
			}
			return
		}
		for _, v := range []byte("01") {
			values[point] = v
			if !closesBalance(values[:point+1]) {
				assign(point + 1)
			}
		}
	}
	assign(0)
	if count != 94572 {
		t.Errorf("%d functions", count)
	}
	for _, f := range someFunctions("01", 5, 3000) {
		hasWeights(t, f)
	}
}

// closesBalance reports whether the last of the points and another one have the sum of two points of the other value.
func closesBalance(values []byte) bool {
	a := len(values) - 1
	for b := range a {
		if values[b] != values[a] {
			continue
		}
		for c := range a {
			d := a + b - c
			if d < 0 || d >= a || values[c] == values[a] || values[d] == values[a] {
				continue
			}
			if a&b == c&d && a^b == c^d {
				return true
			}
		}
	}
	return false
}

// P1.4
func TestRealize(t *testing.T) {
	for _, x := range []struct {
		function string
		weights  []int
		want     api.Errno
	}{
		{"0111", []int{1, 1, 1}, api.OK},
		{"0001", []int{1, 1, 2}, api.OK},
		{"0001", []int{1, 1, 1}, api.ErrAnswer},
		{"0111", []int{1, 1, 0}, api.ErrAnswer},
		{"0110", []int{1, 1, 1}, api.ErrAnswer},
		{"0010", []int{-1, 1, 1}, api.OK},
		{"0100", []int{-1, 1, 1}, api.ErrAnswer},
		{"1111", []int{0, 0, 0}, api.OK},
		{"0000", []int{0, 0, 1}, api.OK},
		{"0000", []int{0, 0, 0}, api.ErrAnswer},
		{"01", []int{1000000, 1000000}, api.OK},
		{"01", []int{999999, 1000000}, api.ErrAnswer},
		{"10", []int{-1000000, -999999}, api.OK},
		{"10", []int{-1000000, -1000000}, api.ErrAnswer},
		{"11", []int{-1000000, -1000000}, api.OK},
		{"00", []int{999999, 1000000}, api.OK},
		{strings.Repeat("1", 32), []int{1000000, 1000000, 1000000, 1000000, 1000000, -1000000}, api.OK},
		{strings.Repeat("0", 31) + "1", []int{200000, 200000, 200000, 200000, 200000, 1000000}, api.OK},
		{strings.Repeat("0", 31) + "1", []int{200000, 200000, 200000, 200000, 199999, 1000000}, api.ErrAnswer},
		{"01", []int{1000001, 1}, api.ErrArg},
		{"01", []int{1, 1000001}, api.ErrArg},
		{"10", []int{-1000001, 0}, api.ErrArg},
		{"11", []int{0, -1000001}, api.ErrArg},
		{"01", []int{math.MaxInt, 1}, api.ErrArg},
		{"01", []int{1, math.MinInt}, api.ErrArg},
		{"01", nil, api.ErrArg},
		{"01", []int{}, api.ErrArg},
		{"01", []int{1}, api.ErrArg},
		{"01", []int{1, 1, 1}, api.ErrArg},
		{"0111", []int{1, 1}, api.ErrArg},
		{"0111", []int{1, 1, 1, 1}, api.ErrArg},
		{"0110", []int{1, 1, 1000001}, api.ErrArg},
		{"0110", []int{-1000001, 1, 1}, api.ErrArg},
		{"0110", make([]int, 1000), api.ErrArg},
	} {
		if e := card.Realize(x.function, x.weights); e != x.want {
			t.Errorf("Realize(%s, %v) = %d, want %d", x.function, x.weights, e, x.want)
		}
	}
}

// P1.4
func TestRealizeSmallWeights(t *testing.T) {
	for _, f := range slices.Concat(words("01", 2), words("01", 4)) {
		for code := range 7 * 7 * 7 {
			weights := []int{code%7 - 3, code/7%7 - 3, code/49 - 3}[2-varsOf(f):]
			want := api.ErrAnswer
			if realizes(f, weights) {
				want = api.OK
			}
			if e := card.Realize(f, weights); e != want {
				t.Errorf("Realize(%s, %v) = %d, want %d", f, weights, e, want)
			}
		}
	}
}

// P1.4
func TestBalance(t *testing.T) {
	const three = "01101000" // 1 2 4 against 0 3 5 6 7
	for _, x := range []struct {
		function string
		points   [][]int
		want     api.Errno
	}{
		{"0110", [][]int{{1, 2}, {0, 3}}, api.OK},
		{"0110", [][]int{{2, 1}, {0, 3}}, api.OK},
		{"0110", [][]int{{1, 1, 2, 2}, {3, 0, 0, 3}}, api.OK},
		{"1001", [][]int{{0, 3}, {1, 2}}, api.OK},
		{three, [][]int{{1, 2, 4}, {0, 0, 7}}, api.OK},
		{three, [][]int{{1, 2, 4}, {0, 7, 7}}, api.ErrAnswer},
		{three, [][]int{{1, 2, 4, 4}, {0, 3, 5, 6}}, api.ErrAnswer},
		{three, [][]int{{1, 1, 2, 2, 4, 4}, {0, 0, 0, 3, 5, 6}}, api.OK},
		{"0110", [][]int{repeat(500, 1, 2), repeat(500, 0, 3)}, api.OK},
		{"0110", [][]int{repeat(501, 1, 2), repeat(501, 0, 3)}, api.ErrAnswer},
		{three, [][]int{append(repeat(498, 1, 2), 1, 2, 4), append(repeat(498, 0, 3), 0, 0, 7)}, api.OK},
		{three, [][]int{append(repeat(499, 1, 2), 1, 2, 4), append(repeat(499, 0, 3), 0, 0, 7)}, api.ErrAnswer},
		{"0110", [][]int{{0, 3}, {1, 2}}, api.ErrAnswer},
		{"0110", [][]int{{1, 2}, {0, 0}}, api.ErrAnswer},
		{"0110", [][]int{{1, 1}, {0, 3}}, api.ErrAnswer},
		{"0110", [][]int{{1}, {0}}, api.ErrAnswer},
		{"0110", [][]int{{1, 2}, {3}}, api.ErrAnswer},
		{"0110", [][]int{{1, 2}, {0, 3, 0}}, api.ErrAnswer},
		{"0110", [][]int{{1, 2}, {1, 2}}, api.ErrAnswer},
		{"0111", [][]int{{1, 2}, {0, 3}}, api.ErrAnswer},
		{"0010", [][]int{{1, 2}, {0, 3}}, api.ErrAnswer},
		{"0110", [][]int{{}, {}}, api.ErrAnswer},
		{"0110", [][]int{nil, nil}, api.ErrAnswer},
		{"0110", [][]int{}, api.ErrAnswer},
		{"0110", nil, api.ErrAnswer},
		{"0110", [][]int{{1, 2}}, api.ErrAnswer},
		{"0110", [][]int{{1, 2}, {0, 3}, {}}, api.ErrAnswer},
		{"0110", [][]int{{1, 2}, {0, 3}, {0, 3}}, api.ErrAnswer},
		{"0110", [][]int{{1, 2}, {-1, 4}}, api.ErrAnswer},
		{"0110", [][]int{{1, 2}, {4, 7}}, api.ErrAnswer},
		{"0110", [][]int{{5, 6}, {0, 3}}, api.ErrAnswer},
		{"0110", [][]int{{33, 2}, {0, 35}}, api.ErrAnswer},
		{"0110", [][]int{{64, 1, 2}, {64, 0, 3}}, api.ErrAnswer},
		{"0110", [][]int{{math.MinInt, 2}, {math.MaxInt, 3}}, api.ErrAnswer},
	} {
		if e := card.Balance(x.function, x.points); e != x.want {
			t.Errorf("Balance(%s, %v) = %d, want %d", x.function, x.points, e, x.want)
		}
	}
}

// P1.4
func TestBalanceOfTwoAgainstTwo(t *testing.T) {
	for _, f := range slices.Concat(words("01", 4), words("01", 8)) {
		n := len(f)
		for code := range n * n * n * n {
			points := [][]int{{code % n, code / n % n}, {code / n / n % n, code / n / n / n}}
			if want := isBalance(f, points); want != (card.Balance(f, points) == api.OK) {
				t.Errorf("Balance(%s, %v) = %d", f, points, card.Balance(f, points))
			}
		}
	}
}
