package strip_test

import (
	"math"
	"slices"
	"testing"

	"numnah/api"
	"numnah/strip"
)

// P4.5
func TestForEverByHand(t *testing.T) {
	upTo2 := api.Rule{Q: 3, Beside: square(3, one), Below: square(3, upwards)}
	around := api.Rule{Q: 3, Beside: square(3, one), Below: [][]int{{0, 1, 0}, {0, 0, 1}, {1, 0, 0}}}
	for _, x := range []struct {
		r       api.Rule
		m       int
		longest int
		ring    int // the number of rows of the smallest ring, or 0
	}{
		{falling(), 1, 2, 0}, {falling(), 5, 2, 0}, {upTo2, 1, 3, 0}, {upTo2, 5, 3, 0},
		{hardSquares(), 1, -1, 1}, {hardSquares(), 5, -1, 1}, {proper(), 1, -1, 2}, {proper(), 5, -1, 2}, {around, 1, -1, 3}, {around, 5, -1, 3}, {twoParts(), 5, -1, 2}, {free(1), 5, -1, 1},
		{ruleOf(3, 58538), 4, -1, 4}, // one of the rules whose smallest ring is the longest
		{api.Rule{Q: 2, Beside: square(2, zero), Below: square(2, one)}, 1, -1, 1}, {api.Rule{Q: 2, Beside: square(2, zero), Below: square(2, one)}, 2, 0, 0},
		{api.Rule{Q: 2, Beside: square(2, one), Below: square(2, zero)}, 5, 1, 0}, {api.Rule{Q: 3, Beside: square(3, zero), Below: square(3, zero)}, 5, 0, 0},
	} {
		if longest, e := strip.Longest(x.r, x.m); longest != x.longest || e != api.OK {
			t.Errorf("Longest(%v, %d) = %d, %d, not %d", x.r, x.m, longest, e, x.longest)
		}
		ring, e := strip.Ever(x.r, x.m)
		if x.ring == 0 && (ring != nil || e != api.ErrNone) || x.ring > 0 && (len(ring) != x.ring || !isRing(x.r, ring) || e != api.OK) {
			t.Errorf("Ever(%v, %d) = %q, %d, not %d rows", x.r, x.m, ring, e, x.ring)
		}
	}
}

// longestOf returns the greatest number of rows of a strip, or -1 if there are strips with more rows than there are different ones, and so with any number of them.
func longestOf(w walks) int {
	set := slices.Repeat([]bool{true}, len(w.rows))
	for n := range len(w.rows) + 1 {
		if !slices.Contains(set, true) {
			return n
		}
		set = w.reached(set, 1)
	}
	return -1
}

// shortestRing returns the smallest number of rows of a ring, or 0.
func shortestRing(w walks) int {
	for n := 1; n <= len(w.rows); n++ {
		for i, row := range w.rows {
			if w.reached(w.only(row), n)[i] {
				return n
			}
		}
	}
	return 0
}

// P4.5, P4.6, P3
func TestForEver(t *testing.T) {
	for _, r := range slices.Concat(smallRules(), someRules(300)) {
		for m := 1; m <= 3; m++ {
			w := walksOf(r, m)
			longest, e := strip.Longest(r, m)
			if longest != longestOf(w) || e != api.OK {
				t.Errorf("Longest(%v, %d) = %d, %d, not %d", r, m, longest, e, longestOf(w))
			}
			ring, e := strip.Ever(r, m)
			rows := shortestRing(w)
			if rows == 0 && (ring != nil || e != api.ErrNone) || rows > 0 && (len(ring) != rows || len(ring[0]) != m || !isRing(r, ring) || e != api.OK) {
				t.Errorf("Ever(%v, %d) = %q, %d, not %d rows", r, m, ring, e, rows)
			}
			if (longest == -1) != (e == api.OK) {
				t.Errorf("%v with %d columns: Longest = %d, Ever = %q", r, m, longest, ring)
			}
		}
	}
}

// P4.5, P4.6, P3: with four and five columns there are too many rows to look for the smallest ring by its definition.
func TestForEverOfWideStrips(t *testing.T) {
	for _, r := range slices.Concat(smallRules(), someRules(200)) {
		for m := 4; m <= api.MaxWide; m++ {
			longest, _ := strip.Longest(r, m)
			ring, e := strip.Ever(r, m)
			if (longest == -1) != (e == api.OK) || e == api.OK && !isRing(r, ring) || e != api.OK && (ring != nil || e != api.ErrNone) {
				t.Errorf("%v with %d columns: Longest = %d, Ever = %q, %d", r, m, longest, ring, e)
			}
			if longest < 0 {
				continue
			}
			at, e := strip.Count(r, m, longest)
			over, o := strip.Count(r, m, longest+1)
			if at == 0 || over != 0 || e != api.OK || o != api.OK {
				t.Errorf("Longest(%v, %d) = %d, but Count is %d, and %d for one row more", r, m, longest, at, over)
			}
		}
	}
}

// P4.5
func TestExtendByHand(t *testing.T) {
	for _, x := range []struct {
		r     api.Rule
		strip []string
		n     int
		whole []string
		e     api.Errno
	}{
		{hardSquares(), []string{"101"}, 3, []string{"101", "000", "000"}, api.OK}, {hardSquares(), []string{"101"}, 1, []string{"101"}, api.OK}, {hardSquares(), []string{"101"}, 0, nil, api.ErrArg}, {hardSquares(), []string{"101"}, -1, nil, api.ErrArg}, {hardSquares(), []string{"101"}, 41, nil, api.ErrArg},
		{hardSquares(), []string{"101"}, 40, append([]string{"101"}, slices.Repeat([]string{"000"}, 39)...), api.OK}, {hardSquares(), []string{"101"}, math.MaxInt, nil, api.ErrArg}, {hardSquares(), []string{"101"}, math.MinInt, nil, api.ErrArg},
		{hardSquares(), []string{"101", "101"}, 3, nil, api.ErrNone}, {hardSquares(), []string{"101", "101"}, 2, nil, api.ErrNone}, {hardSquares(), []string{"101", "101"}, 1, nil, api.ErrArg}, {hardSquares(), []string{"11"}, 1, nil, api.ErrNone},
		{proper(), []string{"01"}, 4, []string{"01", "10", "01", "10"}, api.OK}, {proper(), []string{"20", "12"}, 4, []string{"20", "12", "01", "10"}, api.OK},
		{falling(), []string{"00"}, 2, []string{"00", "11"}, api.OK}, {falling(), []string{"00"}, 3, nil, api.ErrNone}, {falling(), []string{"01"}, 1, []string{"01"}, api.OK}, {falling(), []string{"01"}, 2, nil, api.ErrNone},
		{api.Rule{Q: 3, Beside: square(3, one), Below: [][]int{{0, 1, 1}, {0, 0, 0}, {0, 0, 1}}}, []string{"0"}, 3, []string{"0", "2", "2"}, api.OK}, // 1 comes first, but nothing may stand below it
		{free(3), slices.Repeat([]string{"21021"}, 40), 40, slices.Repeat([]string{"21021"}, 40), api.OK}, {free(3), slices.Repeat([]string{"21021"}, 40), 39, nil, api.ErrArg},
	} {
		if whole, e := strip.Extend(x.r, x.strip, x.n); !slices.Equal(whole, x.whole) || e != x.e {
			t.Errorf("Extend(%v, %q, %d) = %q, %d, not %q, %d", x.r, x.strip, x.n, whole, e, x.whole, x.e)
		}
	}
}

// P4.5
func TestExtendsAllSmallStrips(t *testing.T) {
	for _, r := range slices.Concat(smallRules(), someRules(60)) {
		for m := 1; m <= 3; m++ {
			n := 6 / m
			strips := kept(r, m, n)
			for rows := 1; rows <= n; rows++ {
				for _, word := range words(rows*m, r.Q) {
					s := cut(word, m)
					at := slices.IndexFunc(strips, func(whole []string) bool { return slices.Equal(whole[:rows], s) })
					whole, e := strip.Extend(r, s, n)
					if at < 0 && (whole != nil || e != api.ErrNone) || at >= 0 && (!slices.Equal(whole, strips[at]) || e != api.OK) {
						t.Errorf("Extend(%v, %q, %d) = %q, %d", r, s, n, whole, e)
					}
				}
			}
		}
	}
}

// extended returns the smallest strip of n rows that begins with a row: each row is the first one from which the others can be reached. It is nil if there is none.
func extended(w walks, first string, n int) []string {
	whole := []string{}
	options := w.only(first)
	for left := n - 1; left >= 0; left-- {
		next := -1
		for i, row := range w.rows {
			if next < 0 && options[i] && slices.Contains(w.reached(w.only(row), left), true) {
				next = i
			}
		}
		if next < 0 {
			return nil
		}
		whole = append(whole, w.rows[next])
		options = w.below[next]
	}
	return whole
}

// P4.5
func TestExtendsToLongStrips(t *testing.T) {
	for i, r := range slices.Concat(smallRules(), someRules(60)) {
		m := 1 + i%2
		w := walksOf(r, m)
		for _, n := range []int{2, 3, 4, 5, api.MaxLong - i%9} {
			for _, row := range w.rows {
				want := extended(w, row, n)
				whole, e := strip.Extend(r, []string{row}, n)
				if want == nil && (whole != nil || e != api.ErrNone) || want != nil && (!slices.Equal(whole, want) || e != api.OK) {
					t.Errorf("Extend(%v, %q, %d) = %q, %d, not %q", r, row, n, whole, e, want)
				}
				if again, e := strip.Extend(r, whole[:len(whole)/2], n); len(whole) > 1 && (!slices.Equal(again, whole) || e != api.OK) {
					t.Errorf("Extend(%v, %q, %d) = %q, %d, not %q", r, whole[:len(whole)/2], n, again, e, whole)
				}
			}
		}
	}
}
