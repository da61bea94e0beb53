package strip_test

import (
	"math"
	"math/rand"
	"slices"
	"testing"

	"numnah/api"
	"numnah/strip"
)

// sameCells returns weights of n rows of m cells that are all the same.
func sameCells(m, n int, cell ...int) [][][]int {
	weights := make([][][]int, n)
	for i := range weights {
		for range m {
			weights[i] = append(weights[i], slices.Clone(cell))
		}
	}
	return weights
}

// P4.4
func TestBestByHand(t *testing.T) {
	for _, x := range []struct {
		r       api.Rule
		weights [][][]int
		strip   []string
		most    int
		e       api.Errno
	}{
		{hardSquares(), sameCells(2, 2, 0, 1), []string{"01", "10"}, 2, api.OK},
		{hardSquares(), sameCells(2, 2, 0, 0), []string{"00", "00"}, 0, api.OK},
		{hardSquares(), sameCells(2, 2, 0, -1), []string{"00", "00"}, 0, api.OK},
		{hardSquares(), sameCells(3, 3, 0, 1), []string{"101", "010", "101"}, 5, api.OK},
		{hardSquares(), [][][]int{{{0, 5}, {0, 6}, {0, 5}}}, []string{"101"}, 10, api.OK},
		{hardSquares(), [][][]int{{{0, 5}, {0, 10}, {0, 5}}}, []string{"010"}, 10, api.OK},
		{hardSquares(), [][][]int{{{0, 5}, {0, 11}, {0, 5}}}, []string{"010"}, 11, api.OK},
		{hardSquares(), [][][]int{{{0, 1}}, {{0, 3}}, {{0, 2}}}, []string{"0", "1", "0"}, 3, api.OK},
		{falling(), sameCells(2, 2, 7, -3), []string{"00", "11"}, 8, api.OK},
		{falling(), sameCells(2, 3, 7, -3), nil, 0, api.ErrNone},
		{api.Rule{Q: 2, Beside: square(2, zero), Below: square(2, one)}, sameCells(2, 1, 1, 1), nil, 0, api.ErrNone},
		{free(1), sameCells(5, 40, -1000), slices.Repeat([]string{"00000"}, 40), -200000, api.OK},
		{free(1), sameCells(5, 40, 1000), slices.Repeat([]string{"00000"}, 40), 200000, api.OK},
		{free(3), sameCells(5, 40, -1000, -1000, -1000), slices.Repeat([]string{"00000"}, 40), -200000, api.OK},
		{free(3), sameCells(5, 40, -1000, 999, 1000), slices.Repeat([]string{"22222"}, 40), 200000, api.OK},
		{free(3), sameCells(5, 40, 4, 5, 5), slices.Repeat([]string{"11111"}, 40), 1000, api.OK},
	} {
		if s, most, e := strip.Best(x.r, x.weights); !slices.Equal(s, x.strip) || most != x.most || e != x.e {
			t.Errorf("Best(%v, %v) = %q, %d, %d, not %q, %d, %d", x.r, x.weights, s, most, e, x.strip, x.most, x.e)
		}
	}
}

// P4.4: what are no weights is told before that there is no strip.
func TestWhatAreNoWeights(t *testing.T) {
	changed := func(change func(weights [][][]int)) [][][]int {
		weights := sameCells(3, 4, 1, 2)
		change(weights)
		return weights
	}
	nothing := api.Rule{Q: 2, Beside: square(2, zero), Below: square(2, zero)}
	for _, r := range []api.Rule{free(2), nothing} {
		for _, weights := range [][][][]int{
			nil, {}, {nil}, {{}}, {nil, nil}, {{nil}}, {{{}}}, make([][][]int, 40), make([][][]int, 1000),
			sameCells(3, 41, 0, 0), sameCells(6, 1, 0, 0), sameCells(6, 40, 0, 0), sameCells(0, 3), sameCells(1000, 1, 0, 0),
			sameCells(2, 2, 0), sameCells(2, 2, 0, 0, 0), sameCells(2, 2), sameCells(1, 1, 1001, 0), sameCells(1, 1, 0, -1001), sameCells(5, 40, 0, math.MaxInt), sameCells(5, 40, math.MinInt, 0),
			changed(func(weights [][][]int) { weights[0] = weights[0][:2] }),
			changed(func(weights [][][]int) { weights[3] = weights[3][:2] }),
			changed(func(weights [][][]int) { weights[3] = nil }),
			changed(func(weights [][][]int) { weights[2] = append(weights[2], []int{0, 0}) }),
			changed(func(weights [][][]int) { weights[3][2] = []int{0} }),
			changed(func(weights [][][]int) { weights[1][1] = nil }),
			changed(func(weights [][][]int) { weights[1][2] = []int{0, 0, 0} }),
			changed(func(weights [][][]int) { weights[3][2][1] = 1001 }),
			changed(func(weights [][][]int) { weights[3][0][0] = -1001 }),
		} {
			if s, most, e := strip.Best(r, weights); s != nil || most != 0 || e != api.ErrArg {
				t.Errorf("Best(%v, %v) = %q, %d, %d", r, weights, s, most, e)
			}
		}
	}
}

// P4.4, P4
func TestBestOfAllSmallStrips(t *testing.T) {
	random := rand.New(rand.NewSource(1))
	for i, r := range slices.Concat(smallRules(), someRules(60)) {
		for m := 1; m <= 3; m++ {
			for n := 1; m*n <= 6; n++ {
				weights := weightsOf(random, r.Q, m, n, [3]int{1, 3, 1000}[i%3])
				var best []string
				for _, s := range kept(r, m, n) {
					if best == nil || brings(weights, s) > brings(weights, best) {
						best = s
					}
				}
				s, most, e := strip.Best(r, weights)
				if best == nil {
					if s != nil || most != 0 || e != api.ErrNone {
						t.Errorf("Best(%v, %v) = %q, %d, %d", r, weights, s, most, e)
					}
				} else if !slices.Equal(s, best) || most != brings(weights, best) || e != api.OK {
					t.Errorf("Best(%v, %v) = %q, %d, %d, not %q", r, weights, s, most, e, best)
				}
			}
		}
	}
}

// bestOf returns the smallest one of the strips that bring the most, from the last row up: for each row that may stand first, the best strip is kept. It is nil if there is none.
func bestOf(r api.Rule, weights [][][]int) []string {
	m, n := len(weights[0]), len(weights)
	w := walksOf(r, m)
	better := func(rows [][][]int, s, best []string) bool {
		if s == nil || best == nil {
			return s != nil
		}
		a, b := brings(rows, s), brings(rows, best)
		return a > b || a == b && slices.Compare(s, best) < 0
	}
	strips := make([][]string, len(w.rows))
	for left := 1; left <= n; left++ {
		longer := make([][]string, len(w.rows))
		for i, row := range w.rows {
			var below []string
			for j, s := range strips {
				if w.below[i][j] && better(weights[n-left+1:], s, below) {
					below = s
				}
			}
			if left == 1 || below != nil {
				longer[i] = append([]string{row}, below...)
			}
		}
		strips = longer
	}
	var best []string
	for _, s := range strips {
		if better(weights, s, best) {
			best = s
		}
	}
	return best
}

// P4.4, P4
func TestBestOfLongStrips(t *testing.T) {
	random := rand.New(rand.NewSource(2))
	for i, r := range slices.Concat([]api.Rule{hardSquares(), twoParts()}, smallRules(), someRules(100)) {
		m, n := 1+i%5, 1+random.Intn(api.MaxLong)
		if r.Q == 3 {
			m = 1 + i%3
		}
		weights := weightsOf(random, r.Q, m, n, [4]int{0, 1, 2, 1000}[i/5%4])
		best := bestOf(r, weights)
		s, most, e := strip.Best(r, weights)
		if best == nil {
			if s != nil || most != 0 || e != api.ErrNone {
				t.Errorf("Best(%v, %v) = %q, %d, %d", r, weights, s, most, e)
			}
		} else if !slices.Equal(s, best) || most != brings(weights, best) || e != api.OK {
			t.Errorf("Best(%v, %v) = %q, %d, %d, not %q", r, weights, s, most, e, best)
		}
	}
}
