package strip_test

import (
	"math"
	"math/big"
	"math/rand"
	"slices"
	"testing"

	"numnah/api"
	"numnah/strip"
)

// countLimit is the greatest number of strips that is counted.
func countLimit() *big.Int {
	return new(big.Int).Lsh(big.NewInt(1), 60)
}

// P4.2
func TestCountsByHand(t *testing.T) {
	for _, x := range []struct {
		r     api.Rule
		m, n  int
		count int
		e     api.Errno
	}{
		{hardSquares(), 2, 2, 7, api.OK}, {hardSquares(), 1, 5, 13, api.OK}, {hardSquares(), 3, 3, 63, api.OK}, {hardSquares(), 4, 4, 1234, api.OK}, {hardSquares(), 5, 5, 55447, api.OK},
		{hardSquares(), 5, 0, 1, api.OK}, {hardSquares(), 5, 1, 13, api.OK}, {hardSquares(), 1, 40, 267914296, api.OK},
		{proper(), 2, 2, 18, api.OK}, {proper(), 3, 3, 246, api.OK}, {proper(), 1, 1, 3, api.OK},
		{falling(), 3, 0, 1, api.OK}, {falling(), 3, 1, 8, api.OK}, {falling(), 3, 2, 1, api.OK}, {falling(), 3, 3, 0, api.OK}, {falling(), 3, 40, 0, api.OK},
		{free(1), 5, 40, 1, api.OK}, {free(1), 1, 0, 1, api.OK},
		{free(2), 5, 12, 1 << 60, api.OK}, {free(2), 5, 13, 0, api.ErrFull}, {free(2), 4, 15, 1 << 60, api.OK}, {free(2), 4, 16, 0, api.ErrFull}, {free(2), 3, 20, 1 << 60, api.OK}, {free(2), 3, 21, 0, api.ErrFull}, {free(2), 2, 30, 1 << 60, api.OK}, {free(2), 2, 31, 0, api.ErrFull}, {free(2), 1, 40, 1 << 40, api.OK},
		{free(3), 1, 37, 450283905890997363, api.OK}, {free(3), 1, 38, 0, api.ErrFull}, {free(3), 5, 0, 1, api.OK}, {free(3), 5, 7, 50031545098999707, api.OK}, {free(3), 5, 8, 0, api.ErrFull}, {free(3), 5, 40, 0, api.ErrFull},
		{apart(), 5, 11, 1<<55 + 1, api.OK}, {apart(), 5, 12, 0, api.ErrFull}, {apart(), 4, 15, 0, api.ErrFull},
		{api.Rule{Q: 2, Beside: square(2, zero), Below: square(2, one)}, 2, 0, 1, api.OK}, {api.Rule{Q: 2, Beside: square(2, zero), Below: square(2, one)}, 2, 1, 0, api.OK}, {api.Rule{Q: 2, Beside: square(2, zero), Below: square(2, one)}, 2, 40, 0, api.OK},
	} {
		if count, e := strip.Count(x.r, x.m, x.n); count != x.count || e != x.e {
			t.Errorf("Count(%v, %d, %d) = %d, %d, not %d, %d", x.r, x.m, x.n, count, e, x.count, x.e)
		}
	}
}

// twoParts is a rule by which the colours 1 and 2 alternate with the colour 0 from row to row, so that all rings have an even number of rows.
func twoParts() api.Rule {
	return api.Rule{Q: 3, Beside: square(3, one), Below: [][]int{{0, 1, 1}, {1, 0, 0}, {1, 0, 0}}}
}

// apart is a rule by which the colour 2 stands only in strips of its own, so that there is one strip more than those of two colours.
func apart() api.Rule {
	lists := [][]int{{1, 1, 0}, {1, 1, 0}, {0, 0, 1}}
	return api.Rule{Q: 3, Beside: lists, Below: lists}
}

// P4.2
func TestRingsByHand(t *testing.T) {
	for _, x := range []struct {
		r     api.Rule
		m, n  int
		rings int
		e     api.Errno
	}{
		{hardSquares(), 1, 1, 1, api.OK}, {hardSquares(), 1, 2, 3, api.OK}, {hardSquares(), 1, 3, 4, api.OK}, {hardSquares(), 1, 40, 228826127, api.OK}, {hardSquares(), 2, 2, 7, api.OK},
		{proper(), 1, 1, 0, api.OK}, {proper(), 1, 2, 6, api.OK}, {proper(), 1, 3, 6, api.OK}, {proper(), 2, 2, 18, api.OK},
		{falling(), 1, 1, 0, api.OK}, {falling(), 1, 2, 0, api.OK}, {falling(), 5, 40, 0, api.OK},
		{free(1), 5, 40, 1, api.OK}, {free(2), 5, 12, 1 << 60, api.OK}, {free(2), 5, 13, 0, api.ErrFull}, {free(2), 1, 40, 1 << 40, api.OK}, {free(3), 5, 8, 0, api.ErrFull}, {free(3), 5, 40, 0, api.ErrFull},
		{hardSquares(), 1, 0, 0, api.ErrArg}, {free(3), 5, 0, 0, api.ErrArg}, {free(3), 0, 40, 0, api.ErrArg},
		{apart(), 5, 11, 1<<55 + 1, api.OK}, {apart(), 5, 12, 0, api.ErrFull}, {apart(), 4, 15, 0, api.ErrFull},
		{twoParts(), 5, 2, 1 << 10, api.OK}, {twoParts(), 5, 3, 0, api.OK}, {twoParts(), 5, 23, 0, api.OK}, {twoParts(), 5, 39, 0, api.ErrFull},
	} {
		if rings, e := strip.Rings(x.r, x.m, x.n); rings != x.rings || e != x.e {
			t.Errorf("Rings(%v, %d, %d) = %d, %d, not %d, %d", x.r, x.m, x.n, rings, e, x.rings, x.e)
		}
	}
}

// P4.2: the colour 2 may only stand in the last row, so that there are too many strips, but few enough that begin with each row, and exactly 2^60 rings.
func TestRingsOfTooManyStrips(t *testing.T) {
	r := api.Rule{Q: 3, Beside: square(3, one), Below: [][]int{{1, 1, 1}, {1, 1, 1}, {0, 0, 0}}}
	for _, x := range []struct{ m, n int }{{2, 30}, {3, 20}, {4, 15}, {5, 12}} {
		if count, e := strip.Count(r, x.m, x.n); count != 0 || e != api.ErrFull {
			t.Errorf("Count(%v, %d, %d) = %d, %d", r, x.m, x.n, count, e)
		}
		if rings, e := strip.Rings(r, x.m, x.n); rings != 1<<60 || e != api.OK {
			t.Errorf("Rings(%v, %d, %d) = %d, %d", r, x.m, x.n, rings, e)
		}
		if rings, e := strip.Rings(r, x.m, x.n+1); rings != 0 || e != api.ErrFull {
			t.Errorf("Rings(%v, %d, %d) = %d, %d", r, x.m, x.n+1, rings, e)
		}
	}
}

// P4.2
func TestCountsAllSmallStrips(t *testing.T) {
	for _, r := range slices.Concat(smallRules(), someRules(40)) {
		for m := 1; m <= 4; m++ {
			for n := 1; m*n <= 6; n++ {
				strips := kept(r, m, n)
				if count, e := strip.Count(r, m, n); count != len(strips) || e != api.OK {
					t.Errorf("Count(%v, %d, %d) = %d, %d, not %d", r, m, n, count, e, len(strips))
				}
				rings := 0
				for _, s := range strips {
					if isRing(r, s) {
						rings++
					}
				}
				if number, e := strip.Rings(r, m, n); number != rings || e != api.OK {
					t.Errorf("Rings(%v, %d, %d) = %d, %d, not %d", r, m, n, number, e, rings)
				}
			}
		}
	}
}

// countOf returns the number of strips of n rows, and whether it or that of fewer rows is too great.
func countOf(w walks, n int) (*big.Int, bool) {
	full, number := false, big.NewInt(1)
	numbers := make([]*big.Int, len(w.rows))
	for i := range numbers {
		numbers[i] = big.NewInt(1)
	}
	for range n {
		number = total(numbers)
		full = full || number.Cmp(countLimit()) > 0
		numbers = w.oneMore(numbers)
	}
	return number, full
}

// ringsOf returns the number of rings of n rows, and whether it or a number of strips of at most n rows that begin with one row is too great.
func ringsOf(w walks, n int) (*big.Int, bool) {
	full, number := false, new(big.Int)
	for first := range w.rows {
		for steps := range n {
			full = full || total(w.from(first, steps)).Cmp(countLimit()) > 0
		}
		number.Add(number, w.from(first, n)[first])
	}
	return number, full || number.Cmp(countLimit()) > 0
}

// P4.2
func TestCountsOfLongStrips(t *testing.T) {
	for i, r := range slices.Concat(smallRules(), someRules(150)) {
		m, n := 1+i%5, api.MaxLong-i%13
		for n > 0 {
			w := walksOf(r, m)
			number, full := countOf(w, n)
			count, e := strip.Count(r, m, n)
			if full != (e == api.ErrFull) || !full && (e != api.OK || number.Cmp(big.NewInt(int64(count))) != 0) {
				t.Errorf("Count(%v, %d, %d) = %d, %d, not %v", r, m, n, count, e, number)
			}
			n -= 7 + i%3
		}
	}
}

// P4.2
func TestRingsOfLongStrips(t *testing.T) {
	for i, r := range slices.Concat(smallRules(), someRules(150)) {
		m := 1 + i%4
		if r.Q == 3 {
			m = 1 + i%2
		}
		w := walksOf(r, m)
		for _, n := range []int{api.MaxLong - i%7, 21 - i%11, 10 - i%3} {
			number, full := ringsOf(w, n)
			rings, e := strip.Rings(r, m, n)
			if full != (e == api.ErrFull) || !full && (e != api.OK || number.Cmp(big.NewInt(int64(rings))) != 0) {
				t.Errorf("Rings(%v, %d, %d) = %d, %d, not %v", r, m, n, rings, e, number)
			}
		}
	}
}

// P4.3
func TestItemsByHand(t *testing.T) {
	for _, x := range []struct {
		r       api.Rule
		m, n, k int
		strip   []string
		e       api.Errno
	}{
		{hardSquares(), 2, 2, 0, []string{"00", "00"}, api.OK}, {hardSquares(), 2, 2, 3, []string{"01", "00"}, api.OK}, {hardSquares(), 2, 2, 4, []string{"01", "10"}, api.OK}, {hardSquares(), 2, 2, 6, []string{"10", "01"}, api.OK},
		{hardSquares(), 2, 2, 7, nil, api.ErrArg}, {hardSquares(), 2, 2, -1, nil, api.ErrArg}, {hardSquares(), 2, 2, math.MinInt, nil, api.ErrArg}, {hardSquares(), 2, 2, math.MaxInt, nil, api.ErrArg},
		{hardSquares(), 2, 0, 0, nil, api.OK}, {hardSquares(), 2, 0, 1, nil, api.ErrArg}, {hardSquares(), 2, 0, -1, nil, api.ErrArg},
		{falling(), 3, 3, 0, nil, api.ErrArg}, {falling(), 3, 2, 0, []string{"000", "111"}, api.OK},
		{free(2), 5, 12, 1<<60 - 1, slices.Repeat([]string{"11111"}, 12), api.OK}, {free(2), 5, 12, 1 << 60, nil, api.ErrArg},
		{free(2), 5, 13, 0, nil, api.ErrFull}, {free(2), 5, 13, -1, nil, api.ErrFull}, {free(3), 5, 40, math.MaxInt, nil, api.ErrFull}, {free(3), 5, 41, 0, nil, api.ErrArg},
	} {
		if s, e := strip.Item(x.r, x.m, x.n, x.k); !slices.Equal(s, x.strip) || e != x.e {
			t.Errorf("Item(%v, %d, %d, %d) = %q, %d, not %q, %d", x.r, x.m, x.n, x.k, s, e, x.strip, x.e)
		}
	}
}

// P4.3: too many strips are told before a strip that does not keep the rule, and what is no strip before both.
func TestIndexesByHand(t *testing.T) {
	striped := api.Rule{Q: 3, Beside: square(3, one), Below: square(3, unlessSame)}
	for _, x := range []struct {
		r     api.Rule
		strip []string
		index int
		e     api.Errno
	}{
		{hardSquares(), []string{"00", "00"}, 0, api.OK}, {hardSquares(), []string{"10", "01"}, 6, api.OK}, {hardSquares(), []string{"11", "00"}, 0, api.ErrNone}, {hardSquares(), []string{"10", "10"}, 0, api.ErrNone},
		{free(2), slices.Repeat([]string{"11111"}, 12), 1<<60 - 1, api.OK}, {free(2), slices.Repeat([]string{"00000"}, 13), 0, api.ErrFull},
		{striped, slices.Repeat([]string{"00000"}, 40), 0, api.ErrFull}, {striped, slices.Repeat([]string{"00000"}, 2), 0, api.ErrNone}, {striped, append(slices.Repeat([]string{"00000"}, 39), "00003"), 0, api.ErrArg},
		{falling(), []string{"1", "0"}, 0, api.ErrNone}, {falling(), []string{"0", "1", "0"}, 0, api.ErrNone}, {falling(), []string{"0", "1"}, 0, api.OK},
	} {
		if index, e := strip.Index(x.r, x.strip); index != x.index || e != x.e {
			t.Errorf("Index(%v, %q) = %d, %d, not %d, %d", x.r, x.strip, index, e, x.index, x.e)
		}
	}
}

// P4.3, P4
func TestPositionsOfAllSmallStrips(t *testing.T) {
	for _, r := range slices.Concat(smallRules(), someRules(40)) {
		for m := 1; m <= 3; m++ {
			for n := 1; m*n <= 6; n++ {
				strips := kept(r, m, n)
				for k, s := range strips {
					if item, e := strip.Item(r, m, n, k); !slices.Equal(item, s) || e != api.OK {
						t.Errorf("Item(%v, %d, %d, %d) = %q, %d, not %q", r, m, n, k, item, e, s)
					}
					if index, e := strip.Index(r, s); index != k || e != api.OK {
						t.Errorf("Index(%v, %q) = %d, %d, not %d", r, s, index, e, k)
					}
				}
				if item, e := strip.Item(r, m, n, len(strips)); item != nil || e != api.ErrArg {
					t.Errorf("Item(%v, %d, %d, %d) = %q, %d", r, m, n, len(strips), item, e)
				}
			}
		}
	}
}

// P4.3: strips that do not keep the rule have no position.
func TestNoPositions(t *testing.T) {
	for _, r := range someRules(40) {
		for _, word := range words(4, r.Q) {
			for _, s := range [][]string{cut(word, 1), cut(word, 2), cut(word, 4)} {
				if index, e := strip.Index(r, s); !isKept(r, s) && (index != 0 || e != api.ErrNone) {
					t.Errorf("Index(%v, %q) = %d, %d", r, s, index, e)
				}
			}
		}
	}
}

// P4.3, P4.6
func TestPositionsOfLongStrips(t *testing.T) {
	random := rand.New(rand.NewSource(5))
	for i, r := range slices.Concat(smallRules(), someRules(100)) {
		m, n := 1+i%5, 1+random.Intn(api.MaxLong)
		count, e := strip.Count(r, m, n)
		if e != api.OK || count == 0 {
			continue
		}
		var last []string
		positions := []int{0, count / 2, count - 1, random.Intn(count), random.Intn(count)}
		slices.Sort(positions)
		for _, k := range slices.Compact(positions) {
			s, e := strip.Item(r, m, n, k)
			if e != api.OK || len(s) != n || len(s[0]) != m || !isKept(r, s) || last != nil && slices.Compare(last, s) >= 0 {
				t.Errorf("Item(%v, %d, %d, %d) = %q, %d", r, m, n, k, s, e)
			}
			if index, e := strip.Index(r, s); index != k || e != api.OK {
				t.Errorf("Index(%v, %q) = %d, %d, not %d", r, s, index, e, k)
			}
			last = s
		}
	}
}
