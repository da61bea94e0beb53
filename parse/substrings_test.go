package parse_test

import (
	"cmp"
	"math/rand"
	"slices"
	"strings"
	"testing"

	"numnah/api"
	"numnah/parse"
)

// P9.3
func TestSubstringsByHand(t *testing.T) {
	for _, x := range []struct {
		word             string
		want             []int
		num, den, length int
	}{
		{"a", []int{1, 1}, 1, 1, 1},
		{"aa", []int{1, 1, 1}, 1, 1, 1},
		{"aab", []int{1, 2, 2, 1}, 2, 1, 1},
		{"abab", []int{1, 2, 2, 2, 1}, 2, 1, 1},
		{"abcd", []int{1, 4, 3, 2, 1}, 4, 1, 1},
		// Lengths with the same quotient: the smallest one. Some have a greater one, which may be shortened.
		{"aabba", []int{1, 2, 4, 3, 2, 1}, 2, 1, 1},
		{"aaababbb", []int{1, 2, 4, 6, 5, 4, 3, 2, 1}, 2, 1, 1},
		{"aaababbba", []int{1, 2, 4, 7, 6, 5, 4, 3, 2, 1}, 7, 3, 3},
		{"aaababbbaa", []int{1, 2, 4, 8, 7, 6, 5, 4, 3, 2, 1}, 8, 3, 3},
		{"aabacadbbcb", []int{1, 4, 10, 9, 8, 7, 6, 5, 4, 3, 2, 1}, 5, 1, 2},
		{"aabacadbb", []int{1, 4, 8, 7, 6, 5, 4, 3, 2, 1}, 4, 1, 1},
		{strings.Repeat("a", 160), slices.Repeat([]int{1}, 161), 1, 1, 1},
		{strings.Repeat("a", 159) + "b", slices.Concat([]int{1}, slices.Repeat([]int{2}, 159), []int{1}), 2, 1, 1},
		{strings.Repeat("ab", 80), slices.Concat([]int{1}, slices.Repeat([]int{2}, 159), []int{1}), 2, 1, 1},
	} {
		if l, e := parse.Substrings(x.word); !slices.Equal(l, x.want) || e != api.OK {
			t.Errorf("Substrings(%s) = %v, %d, not %v", x.word, l, e, x.want)
		}
		want := api.Frac{Num: x.num, Den: x.den}
		if f, k, e := parse.Delta(x.word); f != want || k != x.length || e != api.OK {
			t.Errorf("Delta(%s) = %v, %d, %d, not %v, %d", x.word, f, k, e, want, x.length)
		}
	}
	if l, e := parse.Substrings(""); !slices.Equal(l, []int{1}) || e != api.OK {
		t.Errorf("Substrings of the empty word = %v, %d", l, e)
	}
	if f, k, e := parse.Delta(""); f != (api.Frac{}) || k != 0 || e != api.ErrArg {
		t.Errorf("Delta of the empty word = %v, %d, %d", f, k, e)
	}
}

// numbersOf returns how many substrings of each length a word has.
func numbersOf(word string) []int {
	var list []int
	for length := range len(word) + 1 {
		list = append(list, len(substringsOf(word, length)))
	}
	return list
}

// P9.3: the definition, for all small words and the long ones.
func TestSubstrings(t *testing.T) {
	for _, w := range slices.Concat(smallWords(), longWords()) {
		if l, e := parse.Substrings(w); e != api.OK || !slices.Equal(l, numbersOf(w)) {
			t.Errorf("Substrings(%s) = %v, %d, not %v", w, l, e, numbersOf(w))
		}
	}
}

func greatestDivisor(a, b int) int {
	for d := min(a, b); ; d-- {
		if a%d == 0 && b%d == 0 {
			return d
		}
	}
}

// P9.3
func TestDelta(t *testing.T) {
	for _, w := range slices.Concat(smallWords()[1:], longWords()) {
		numbers := numbersOf(w)
		best := 1
		for k := 2; k <= len(w); k++ {
			if numbers[k]*best > numbers[best]*k {
				best = k
			}
		}
		d := greatestDivisor(numbers[best], best)
		want := api.Frac{Num: numbers[best] / d, Den: best / d}
		if f, k, e := parse.Delta(w); f != want || k != best || e != api.OK {
			t.Errorf("Delta(%s) = %v, %d, %d, not %v, %d", w, f, k, e, want, best)
		}
	}
}

// P9.3
func TestLongestByHand(t *testing.T) {
	for _, x := range []struct {
		word, want    string
		first, second int
	}{
		{"aa", "a", 0, 1},
		{"abab", "ab", 0, 2},
		{"aaaa", "aaa", 0, 1},
		{"abcdb", "b", 1, 4},
		{"dcbad", "d", 0, 4},
		// Occurrences that overlap, and the two smallest positions of more.
		{"ababa", "aba", 0, 2},
		{"abcbcbcd", "bcbc", 1, 3},
		{"abacada", "a", 0, 2},
		{"dabcabbabc", "abc", 1, 7},
		{"cabdabcab", "cab", 0, 6},
		{"abcdabdab", "dab", 3, 6},
		// Several of the greatest length: the smallest one, wherever it is.
		{"abcdabdcd", "ab", 0, 4},
		{"cdabcdab", "cdab", 0, 4},
		{"cdcabab", "ab", 3, 5},
		{"bbaa", "a", 2, 3},
		{"babbab", "bab", 0, 3},
		{"dccddaccda", "ccd", 1, 6},
		{"ddcccddccc", "ddccc", 0, 5},
		{"bdabcbdcabc", "abc", 2, 8},
		{"bdbacbacbdb", "bacb", 2, 5},
		{strings.Repeat("a", 160), strings.Repeat("a", 159), 0, 1},
		{strings.Repeat("ba", 80), strings.Repeat("ba", 79), 0, 2},
		{strings.Repeat("b", 80) + strings.Repeat("a", 80), strings.Repeat("a", 79), 80, 81},
		{strings.Repeat("c", 79) + strings.Repeat("a", 80), strings.Repeat("a", 79), 79, 80},
		{strings.Repeat("c", 80) + strings.Repeat("a", 79), strings.Repeat("c", 79), 0, 1},
	} {
		if s, i, j, e := parse.Longest(x.word); s != x.want || i != x.first || j != x.second || e != api.OK {
			t.Errorf("Longest(%s) = %s, %d, %d, %d, not %s, %d, %d", x.word, s, i, j, e, x.want, x.first, x.second)
		}
	}
}

// P9.3: no letter occurs twice.
func TestLongestOfDifferentLetters(t *testing.T) {
	for _, w := range []string{"", "a", "b", "c", "d", "ab", "da", "cab", "abcd", "dbca", "dcba"} {
		if s, i, j, e := parse.Longest(w); s != "" || i != 0 || j != 0 || e != api.ErrNone {
			t.Errorf("Longest(%s) = %s, %d, %d, %d", w, s, i, j, e)
		}
	}
}

// longestOf is the first one of the longest strings of which a condition holds, and of the smallest ones of these, or the empty string.
func longestOf(word string, holds func(s string) bool) string {
	list := []string{""}
	for length := 1; length <= len(word); length++ {
		list = append(list, slices.DeleteFunc(substringsOf(word, length), func(s string) bool { return !holds(s) })...)
	}
	return slices.MinFunc(list, func(s, t string) int {
		return cmp.Or(cmp.Compare(len(t), len(s)), cmp.Compare(s, t))
	})
}

// P9.3, P4
func TestLongest(t *testing.T) {
	for _, w := range slices.Concat(smallWords(), wordsOf(6, "abcd"), wordsOf(11, "ab"), longWords()) {
		want := longestOf(w, func(s string) bool { return len(positionsOf(w, s)) > 1 })
		s, i, j, e := parse.Longest(w)
		if want == "" {
			if s != "" || i != 0 || j != 0 || e != api.ErrNone {
				t.Errorf("Longest(%s) = %s, %d, %d, %d", w, s, i, j, e)
			}
			continue
		}
		if l := positionsOf(w, want); s != want || i != l[0] || j != l[1] || e != api.OK {
			t.Errorf("Longest(%s) = %s, %d, %d, %d, not %s at %v", w, s, i, j, e, want, l)
		}
	}
}

// P9.3
func TestCommonByHand(t *testing.T) {
	for _, x := range [][3]string{
		{"", "", ""},
		{"", "abcd", ""},
		{"a", "b", ""},
		{"abab", "cdcd", ""},
		{"a", "a", "a"},
		{"abc", "dbd", "b"},
		{"abab", "baba", "aba"},
		{"abcd", "abcd", "abcd"},
		{"aab", "aaab", "aab"},
		// Several of the greatest length: the smallest one, wherever it is in either word.
		{"ab", "ba", "a"},
		{"dcab", "abdc", "ab"},
		{"abdc", "dcab", "ab"},
		{"bbcaac", "aabb", "aa"},
		{"dbabd", "babdba", "babd"},
		{strings.Repeat("a", 160), "bab", "a"},
		{strings.Repeat("a", 160), strings.Repeat("a", 160), strings.Repeat("a", 160)},
		{strings.Repeat("d", 160), strings.Repeat("d", 5), "ddddd"},
		{strings.Repeat("ab", 80), strings.Repeat("ba", 80), strings.Repeat("ab", 79) + "a"},
		{strings.Repeat("b", 80) + strings.Repeat("a", 80), strings.Repeat("a", 80) + strings.Repeat("b", 80), strings.Repeat("a", 80)},
	} {
		for _, y := range [][2]string{{x[0], x[1]}, {x[1], x[0]}} {
			if s, e := parse.Common(y[0], y[1]); s != x[2] || e != api.OK {
				t.Errorf("Common(%s, %s) = %s, %d, not %s", y[0], y[1], s, e, x[2])
			}
		}
	}
}

// P9.3, P4: the definition, for all pairs of very small words, and pairs of small and long ones.
func TestCommon(t *testing.T) {
	check := func(u, w string) {
		want := longestOf(u, func(s string) bool { return strings.Contains(w, s) })
		if s, e := parse.Common(u, w); s != want || e != api.OK {
			t.Errorf("Common(%s, %s) = %s, %d, not %s", u, w, s, e, want)
		}
	}
	few := append(wordsUpTo(3, "abcd"), wordsOf(5, "ab")...)
	for _, u := range few {
		for _, w := range few {
			check(u, w)
		}
	}
	random := rand.New(rand.NewSource(95))
	long := longWords()
	for i, u := range long {
		check(u, long[random.Intn(len(long))])
		check(u, long[(i+1)%len(long)])
		check(u, u[len(u)/2:]+u[:len(u)/2])
		check(u, someWord(random, random.Intn(30), "abcd"))
	}
	for range 2000 {
		check(someWord(random, random.Intn(12), "abcd"), someWord(random, random.Intn(12), "abcd"))
	}
}
