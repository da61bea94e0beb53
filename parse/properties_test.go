package parse_test

import (
	"math/rand"
	"slices"
	"testing"

	"numnah/api"
	"numnah/parse"
)

// manyWords returns the small words, the long ones, and further random ones.
func manyWords() []string {
	random := rand.New(rand.NewSource(100))
	list := slices.Concat(smallWords(), longWords())
	for range 200 {
		n := 1 + random.Intn(160)
		list = append(list, patchwork(random, n), someWord(random, n, "ab"))
	}
	return list
}

// P9.6
func TestCopyingParseGivesTheWordBack(t *testing.T) {
	for _, w := range manyWords() {
		factors, e := parse.Copying(w)
		letters, at := "", 0
		for _, f := range factors {
			if f.From == -1 {
				letters += w[at : at+f.Length]
			}
			at += f.Length
		}
		if u, o := parse.Read(factors, letters); u != w || e != api.OK || o != api.OK {
			t.Errorf("%s: Read(%v, %s) = %s, %d", w, factors, letters, u, o)
		}
	}
}

// P9.6: no plan is cheaper, if all factors have the price 1.
func TestCopyingParseIsCheapest(t *testing.T) {
	for _, w := range manyWords() {
		factors, _ := parse.Copying(w)
		_, c, e := parse.Cheapest(w, 1, 1)
		if c != len(factors) || e != api.OK {
			t.Errorf("Cheapest(%s, 1, 1): %d, %d, and %d factors", w, c, e, len(factors))
		}
		if c, e := parse.Cost(w, factors, 1, 1); c != len(factors) || e != api.OK {
			t.Errorf("Cost(%s, %v, 1, 1) = %d, %d", w, factors, c, e)
		}
	}
}

// P9.6
func TestSetsThatTouchHaveDelta(t *testing.T) {
	random := rand.New(rand.NewSource(101))
	for _, w := range manyWords()[1:] {
		sets := [][]int{upTo(len(w)), slices.DeleteFunc(upTo(len(w)), func(int) bool { return random.Intn(6) == 0 })}
		if l, e := parse.Fewest(w); e == api.OK {
			sets = append(sets, l)
		}
		f, _, e := parse.Delta(w)
		for _, set := range sets {
			if _, is, _ := parse.Touches(w, set); is && len(set)*f.Den < f.Num || e != api.OK {
				t.Errorf("%v touches %s, and Delta = %v, %d", set, w, f, e)
			}
		}
		if l, e := parse.Fewest(w); e == api.OK {
			if s, is, _ := parse.Touches(w, l); s != "" || !is {
				t.Errorf("Fewest(%s) = %v, which does not touch %s", w, l, s)
			}
		}
	}
}

// P9.6: the positions at which factors of the copying parse end touch the word, and are no fewer than Delta.
func TestEndsOfFactorsTouch(t *testing.T) {
	for _, w := range manyWords() {
		factors, _ := parse.Copying(w)
		var ends []int
		at := 0
		for _, f := range factors {
			at += f.Length
			ends = append(ends, at-1)
		}
		if s, is, e := parse.Touches(w, ends); s != "" || !is || e != api.OK {
			t.Errorf("Touches(%s, %v) = %s, %v, %d", w, ends, s, is, e)
		}
		if f, _, e := parse.Delta(w); e == api.OK && len(ends)*f.Den < f.Num {
			t.Errorf("%v touches %s, and Delta = %v", ends, w, f)
		}
	}
}

// P9.6
func TestCopyingHasAtMostTwiceTheFactorsOfLearning(t *testing.T) {
	for _, w := range manyWords() {
		factors, _ := parse.Copying(w)
		learnt, _ := parse.Learning(w)
		if len(factors) > 2*len(learnt) {
			t.Errorf("%s: %d factors, and %d of the learning parse", w, len(factors), len(learnt))
		}
	}
}

// P9.6
func TestReversedWordsHaveAsManySubstrings(t *testing.T) {
	for _, w := range manyWords() {
		letters := []byte(w)
		slices.Reverse(letters)
		l, e := parse.Substrings(w)
		r, o := parse.Substrings(string(letters))
		if !slices.Equal(l, r) || e != api.OK || o != api.OK {
			t.Errorf("Substrings(%s) = %v, %d, and of its reversal %v, %d", w, l, e, r, o)
		}
	}
}

// P9.6
func TestDoublingAddsAtMostOneFactor(t *testing.T) {
	for _, w := range manyWords() {
		w = w[:min(len(w), api.MaxWord/2)]
		single, e := parse.Copying(w)
		double, o := parse.Copying(w + w)
		if len(double) < len(single) || len(double) > len(single)+1 || e != api.OK || o != api.OK {
			t.Errorf("%s: %d factors, %d, and %d, %d for its double", w, len(single), e, len(double), o)
		}
	}
}

// The last letters and the position of a word among its turns are enough to find the word again.
func TestTurnsCanBeUndone(t *testing.T) {
	for _, w := range manyWords()[1:] {
		last, position, _ := parse.Turns(w)
		order := upTo(len(last))
		slices.SortStableFunc(order, func(i, j int) int { return int(last[i]) - int(last[j]) })
		u := ""
		for range len(last) {
			position = order[position]
			u += last[position : position+1]
		}
		if u != w {
			t.Errorf("Turns(%s) = %s, which are those of %s", w, last, u)
		}
	}
}
