package parse_test

import (
	"math"
	"math/rand"
	"slices"
	"strings"
	"testing"

	"numnah/api"
	"numnah/parse"
)

// rising are the factors of the learning parse of a single letter, repeated: 1, 2, 3 and so on of them.
func rising(count int) []api.Factor {
	var factors []api.Factor
	for i := range count {
		factors = append(factors, api.Factor{From: i, Length: i + 1})
	}
	return factors
}

// P9.1
func TestLearningByHand(t *testing.T) {
	for _, x := range []struct {
		word string
		want []api.Factor
		last string
	}{
		{"", nil, ""},
		{"a", factorsOf(0, 1), "a"},
		{"d", factorsOf(0, 1), "d"},
		{"abcd", factorsOf(0, 1, 0, 1, 0, 1, 0, 1), "abcd"},
		{"abab", factorsOf(0, 1, 0, 1, 1, 2), "abb"},
		{"aaa", factorsOf(0, 1, 1, 2), "aa"},
		{"aabaab", factorsOf(0, 1, 1, 2, 1, 2, 0, 1), "abab"},
		{"abaababb", factorsOf(0, 1, 0, 1, 1, 2, 2, 2, 2, 2), "abaab"},
		// The last factor is one of those before it.
		{"aa", factorsOf(0, 1, 0, 1), "aa"},
		{"aba", factorsOf(0, 1, 0, 1, 0, 1), "aba"},
		{"aaaaa", factorsOf(0, 1, 1, 2, 1, 2), "aaa"},
		{"ababab", factorsOf(0, 1, 0, 1, 1, 2, 1, 2), "abbb"},
		{"abaabcabaab", factorsOf(0, 1, 0, 1, 1, 2, 2, 2, 1, 2, 3, 3), "abacbb"},
		{"abaabcabaa", factorsOf(0, 1, 0, 1, 1, 2, 2, 2, 1, 2, 1, 2), "abacba"},
		{strings.Repeat("b", 153), rising(17), strings.Repeat("b", 17)},
		{strings.Repeat("b", 160), append(rising(17), api.Factor{From: 6, Length: 7}), strings.Repeat("b", 18)},
	} {
		if l, e := parse.Learning(x.word); !slices.Equal(l, x.want) || e != api.OK {
			t.Errorf("Learning(%s) = %v, %d, not %v", x.word, l, e, x.want)
		}
		if w, e := parse.Unlearn(x.want, x.last); w != x.word || e != api.OK {
			t.Errorf("Unlearn(%v, %s) = %s, %d, not %s", x.want, x.last, w, e, x.word)
		}
	}
}

// P9.1: the definition, for all small words and the long ones.
func TestLearning(t *testing.T) {
	for _, w := range slices.Concat(smallWords(), wordsOf(6, "abcd"), wordsOf(12, "ab"), longWords()) {
		factors, last := learning(w)
		if l, e := parse.Learning(w); e != api.OK || !slices.Equal(l, factors) {
			t.Errorf("Learning(%s) = %v, %d, not %v", w, l, e, factors)
		}
		if u, e := parse.Unlearn(factors, last); u != w || e != api.OK {
			t.Errorf("Unlearn(%v, %s) = %s, %d, not %s", factors, last, u, e, w)
		}
	}
}

// learnt are up to three factors, with their last letters.
type learnt struct {
	factors [3]api.Factor
	last    string
}

func learntOf(factors []api.Factor, last string) learnt {
	x := learnt{last: last}
	copy(x.factors[:], factors)
	return x
}

// P9.1: all lists of up to three factors with small numbers, with all last letters of two. Three factors have at most 6 letters if they are those of a word.
func TestUnlearn(t *testing.T) {
	words := map[learnt]string{}
	for _, w := range wordsUpTo(8, "ab") {
		if factors, last := learning(w); len(factors) <= 3 {
			words[learntOf(factors, last)] = w
		}
	}
	check := func(factors []api.Factor, last string) {
		w, ok := words[learntOf(factors, last)]
		if ok = ok && len(last) == len(factors); !ok {
			w = ""
		}
		if u, e := parse.Unlearn(factors, last); u != w || ok != (e == api.OK) || !ok && e != api.ErrArg {
			t.Errorf("Unlearn(%v, %s) = %s, %d, not %s", factors, last, u, e, w)
		}
	}
	var lists func(factors []api.Factor)
	lists = func(factors []api.Factor) {
		for _, last := range wordsOf(len(factors), "ab") {
			check(factors, last)
		}
		check(factors, strings.Repeat("a", len(factors)+1))
		check(factors, "b")
		check(factors, "")
		if len(factors) == 3 {
			return
		}
		for from := -1; from <= 4; from++ {
			for length := -1; length <= 4; length++ {
				lists(append(slices.Clip(factors), api.Factor{From: from, Length: length}))
			}
		}
	}
	lists(nil)
}

// P9.1: factors for which there is no word.
func TestUnlearnRefuses(t *testing.T) {
	long := append(rising(17), api.Factor{From: 6, Length: 7})
	longer := append(rising(17), api.Factor{From: 7, Length: 8})
	changed := func(i int, f api.Factor) []api.Factor {
		factors := slices.Clone(long)
		factors[i] = f
		return factors
	}
	a18 := strings.Repeat("a", 18)
	for _, x := range []struct {
		factors []api.Factor
		last    string
	}{
		// A From that no learning parse has: not one of the factors before.
		{factorsOf(1, 1), "a"}, {factorsOf(1, 2), "a"}, {factorsOf(-1, 1), "a"}, {factorsOf(-1, 0), "a"}, {factorsOf(0, 1, 2, 2), "ab"}, {factorsOf(0, 1, 2, 3), "ab"}, {factorsOf(0, 1, -1, 1), "ab"}, {factorsOf(2, 2, 0, 1), "ab"},
		{factorsOf(math.MaxInt, 1), "a"}, {factorsOf(math.MinInt, 1), "a"}, {factorsOf(0, 1, math.MaxInt, 2), "ab"}, {factorsOf(0, 1, 1<<32, 1), "ab"}, {factorsOf(0, 1, 1<<32+1, 2), "ab"},
		// A Length that no learning parse has: not one more than that of the factor it is without its last letter.
		{factorsOf(0, 0), "a"}, {factorsOf(0, 2), "a"}, {factorsOf(0, -1), "a"}, {factorsOf(0, 1, 1, 1), "ab"}, {factorsOf(0, 1, 0, 2), "ab"}, {factorsOf(0, 1, 1, 3), "ab"}, {factorsOf(0, 1, 1, 2, 2, 2), "abb"},
		{factorsOf(0, math.MaxInt), "a"}, {factorsOf(0, math.MinInt), "a"}, {factorsOf(0, 1<<32+1), "a"}, {factorsOf(0, 1, 0, math.MaxInt, 0, math.MinInt), "abc"}, {factorsOf(0, 2, 0, 0), "ab"},
		// Too few or too many last letters.
		{factorsOf(0, 1), ""}, {factorsOf(0, 1), "ab"}, {nil, "a"}, {[]api.Factor{}, "abcd"}, {factorsOf(0, 1, 0, 1, 1, 2), "ab"}, {factorsOf(0, 1, 0, 1, 1, 2), "abbb"}, {long, a18[1:]}, {long, a18 + "a"},
		// Equal factors before the end.
		{factorsOf(0, 1, 0, 1, 0, 1), "aab"}, {factorsOf(0, 1, 0, 1, 0, 1), "aaa"}, {factorsOf(0, 1, 1, 2, 1, 2, 0, 1), "abbc"}, {factorsOf(0, 1, 0, 1, 2, 2), "aab"}, {append(slices.Clone(long), api.Factor{From: 0, Length: 1}), a18 + "b"},
		// Too many letters.
		{longer, a18}, {rising(18), a18}, {rising(160), strings.Repeat("a", 160)}, {rising(160), strings.Repeat("abcd", 40)}, {rising(100000), strings.Repeat("a", 100000)}, {make([]api.Factor, 100000), "a"}, {make([]api.Factor, 160), strings.Repeat("a", 160)},
		// Changes of what is right.
		{changed(17, api.Factor{From: 6, Length: 6}), a18}, {changed(17, api.Factor{From: 5, Length: 7}), a18}, {changed(17, api.Factor{From: 18, Length: 7}), a18}, {changed(16, api.Factor{From: 15, Length: 16}), a18}, {changed(0, api.Factor{From: 0, Length: 0}), a18}, {changed(0, api.Factor{From: 1, Length: 1}), a18},
	} {
		if w, e := parse.Unlearn(x.factors, x.last); w != "" || e != api.ErrArg {
			t.Errorf("Unlearn(%.300v, %.300s) = %s, %d", x.factors, x.last, w, e)
		}
	}
	// Equal last factors do no harm, and 160 letters are not too many.
	for _, x := range []struct {
		factors    []api.Factor
		last, word string
	}{
		{factorsOf(0, 1, 0, 1), "aa", "aa"}, {factorsOf(0, 1, 1, 2, 1, 2), "abb", "aabab"}, {long, a18, strings.Repeat("a", 160)}, {changed(17, api.Factor{From: 6, Length: 7}), a18[1:] + "b", strings.Repeat("a", 159) + "b"},
	} {
		if w, e := parse.Unlearn(x.factors, x.last); w != x.word || e != api.OK {
			t.Errorf("Unlearn(%v, %s) = %s, %d", x.factors, x.last, w, e)
		}
	}
}

// P9.1: one number or letter of the factors of a word is changed: it is another word or none.
func TestUnlearnOfChangedFactors(t *testing.T) {
	random := rand.New(rand.NewSource(91))
	for _, w := range longWords() {
		for range 20 {
			factors, last := learning(w)
			i := random.Intn(len(factors))
			switch random.Intn(4) {
			case 0:
				factors[i].From += random.Intn(7) - 3
			case 1:
				factors[i].Length += random.Intn(5) - 2
			case 2:
				last = last[:i] + someWord(random, 1, "abcd") + last[i+1:]
			default:
				factors = slices.Delete(factors, i, i+1)
				last = last[:i] + last[i+1:]
			}
			u, e := parse.Unlearn(factors, last)
			l, s := learning(u)
			if is := slices.Equal(l, factors) && s == last; e == api.OK && (!is || len(u) > 160) || e != api.OK && (e != api.ErrArg || u != "") {
				t.Errorf("Unlearn(%v, %s) = %s, %d", factors, last, u, e)
			}
			if word, ok := put(factors, last); ok != (e == api.OK) || ok && word != u {
				t.Errorf("Unlearn(%v, %s) = %s, %d, not %s", factors, last, u, e, word)
			}
		}
	}
}

// put is the word whose learning parse has certain factors, and reports whether there is one.
func put(factors []api.Factor, last string) (string, bool) {
	var texts []string
	for i, f := range factors {
		before := ""
		switch {
		case f.From < 0 || f.From > i:
			return "", false
		case f.From > 0:
			before = texts[f.From-1]
		}
		texts = append(texts, before+last[i:i+1])
		if len(texts[i]) != f.Length || i+1 < len(factors) && slices.Contains(texts[:i], texts[i]) {
			return "", false
		}
	}
	word := strings.Join(texts, "")
	if len(word) > 160 {
		return "", false
	}
	return word, true
}
