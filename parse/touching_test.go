package parse_test

import (
	"math"
	"math/rand"
	"slices"
	"strings"
	"testing"

	"numnah/api"
	"numnah/parse"
)

// upTo has the numbers from 0 to n - 1.
func upTo(n int) []int {
	var list []int
	for i := range n {
		list = append(list, i)
	}
	return list
}

// P9.4
func TestTouchesByHand(t *testing.T) {
	for _, x := range []struct {
		word   string
		set    []int
		missed string
	}{
		// The empty set touches only the empty word.
		{"", nil, ""},
		{"", []int{}, ""},
		{"a", nil, "a"},
		{"dcb", nil, "b"},
		{"dcb", []int{}, "b"},
		{"a", []int{0}, ""},
		{"abab", []int{0, 1}, ""},
		{"abab", []int{1, 2}, ""},
		{"abab", []int{0, 3}, "ba"},
		{"abab", []int{0, 2}, "b"},
		{"abab", []int{1, 3}, "a"},
		{"abab", []int{0, 1, 2, 3}, ""},
		{"aaaa", []int{3}, ""},
		{"aaaa", []int{0}, ""},
		{"aaba", []int{0}, "b"},
		{"aaba", []int{2}, "a"},
		{"aaba", []int{2, 3}, "aa"},
		{"aaba", []int{0, 2}, ""},
		{"aaba", []int{1, 2}, ""},
		// The shortest one comes first, and of one length the smallest one.
		{"dcba", []int{0}, "a"},
		{"dcba", []int{3}, "b"},
		{"dcba", []int{0, 2, 3}, "c"},
		{"abcab", []int{2, 3}, "b"},
		{"cdbacdadabcd", []int{0, 1, 2, 3}, "ab"},
		{"bababaab", []int{6, 7}, "ba"},
		{"bbaabbabab", []int{0, 1, 2}, "ab"},
		{"abbbbb", []int{0, 1}, ""},
		{"abbbbb", []int{0, 2}, ""},
		{"abbbbb", []int{0, 3}, ""},
		{strings.Repeat("a", 160), []int{159}, ""},
		{strings.Repeat("a", 160), nil, "a"},
		{strings.Repeat("a", 159) + "b", []int{159}, "a"},
		{strings.Repeat("a", 159) + "b", []int{0, 159}, ""},
		{"b" + strings.Repeat("a", 159), []int{0, 79}, ""},
		{strings.Repeat("a", 80) + strings.Repeat("b", 80), []int{79, 80}, ""},
		{strings.Repeat("a", 80) + strings.Repeat("b", 80), []int{78, 81}, "ab"},
		{strings.Repeat("ab", 80), []int{0, 159}, "ba"},
		{strings.Repeat("a", 79) + "b" + strings.Repeat("a", 80), []int{78, 79}, strings.Repeat("a", 80)},
		{strings.Repeat("ab", 79) + "ca", []int{157, 158}, "a"},
		{strings.Repeat("ab", 79) + "ca", []int{156, 157, 158}, ""},
	} {
		if s, is, e := parse.Touches(x.word, x.set); s != x.missed || is != (x.missed == "") || e != api.OK {
			t.Errorf("Touches(%s, %v) = %s, %v, %d, not %s", x.word, x.set, s, is, e, x.missed)
		}
	}
}

func checkTouches(t *testing.T, word string, set []int) {
	t.Helper()
	want := missed(word, set)
	if s, is, e := parse.Touches(word, set); s != want || is != (want == "") || e != api.OK {
		t.Errorf("Touches(%s, %v) = %s, %v, %d, not %s", word, set, s, is, e, want)
	}
}

// P9.4: all sets of small words.
func TestTouches(t *testing.T) {
	for _, w := range slices.Concat(wordsUpTo(4, "abcd"), wordsUpTo(8, "ab")) {
		for _, set := range setsOf(len(w)) {
			checkTouches(t, w, set)
		}
	}
}

// P9.4: random sets, and all positions, of long words.
func TestTouchesOfLongWords(t *testing.T) {
	random := rand.New(rand.NewSource(96))
	for _, w := range longWords() {
		checkTouches(t, w, nil)
		for range 3 {
			some := func(int) bool { return random.Intn(4) == 0 }
			checkTouches(t, w, slices.DeleteFunc(upTo(len(w)), some))
			checkTouches(t, w, slices.DeleteFunc(upTo(len(w)), func(i int) bool { return !some(i) }))
		}
		if s, is, e := parse.Touches(w, upTo(len(w))); s != "" || !is || e != api.OK {
			t.Errorf("Touches(%s, all) = %s, %v, %d", w, s, is, e)
		}
	}
}

// P9.4: lists that are no positions of the word in strictly ascending order.
func TestWhatAreNoPositions(t *testing.T) {
	for _, w := range []string{"", "a", "abab", "abcd", strings.Repeat("a", 160)} {
		n := len(w)
		for _, set := range [][]int{
			{n}, {-1}, {n + 1}, {-1, 0}, {0, n}, {0, 0}, {1, 0}, {0, 1, 1}, {0, 2, 1}, append(upTo(n), n), append(upTo(n), 0), append(upTo(n), n-1), append([]int{-1}, upTo(n)...), {160}, {161},
			{math.MaxInt}, {math.MinInt}, {0, math.MaxInt}, {0, math.MinInt}, {math.MinInt, 0}, {1 << 32}, {-1 << 32}, make([]int, 100000), upTo(100000),
		} {
			if s, is, e := parse.Touches(w, set); s != "" || is || e != api.ErrArg {
				t.Errorf("Touches(%s, %.200v) = %s, %v, %d", w, set, s, is, e)
			}
		}
	}
}

// P9.4
func TestFewestByHand(t *testing.T) {
	for _, x := range []struct {
		word string
		want []int
	}{
		{"", nil},
		{"a", []int{0}},
		{"aaaa", []int{0}},
		{"abab", []int{0, 1}},
		{"abcd", []int{0, 1, 2, 3}},
		{"aab", []int{0, 2}},
		{"aabb", []int{0, 2}},
		{"abba", []int{0, 2}},
		{"aaba", []int{0, 2}},
		// Words of exactly MaxTouch letters.
		{strings.Repeat("c", 14), []int{0}},
		{strings.Repeat("ab", 7), []int{0, 1}},
		{strings.Repeat("a", 13) + "b", []int{0, 13}},
		{"b" + strings.Repeat("a", 13), []int{0, 1}},
		{strings.Repeat("a", 7) + strings.Repeat("b", 7), []int{0, 7}},
		{strings.Repeat("abcd", 3) + "ab", []int{0, 1, 2, 3}},
	} {
		if l, e := parse.Fewest(x.word); !slices.Equal(l, x.want) || e != api.OK {
			t.Errorf("Fewest(%s) = %v, %d, not %v", x.word, l, e, x.want)
		}
	}
}

func checkFewest(t *testing.T, word string, sets [][]int) {
	t.Helper()
	want := fewest(word, sets)
	if l, e := parse.Fewest(word); !slices.Equal(l, want) || e != api.OK {
		t.Errorf("Fewest(%s) = %v, %d, not %v", word, l, e, want)
	}
}

// P9.4, P4: all sets, for small words and random longer ones.
func TestFewest(t *testing.T) {
	sets := map[int][][]int{}
	for n := range 15 {
		sets[n] = setsOf(n)
	}
	for _, w := range slices.Concat(wordsUpTo(5, "abcd"), wordsUpTo(9, "ab")) {
		checkFewest(t, w, sets[len(w)])
	}
	random := rand.New(rand.NewSource(97))
	for _, n := range []int{10, 11, 12, 13, 14, 14, 14, 14} {
		for _, w := range []string{someWord(random, n, "ab"), someWord(random, n, "abc"), someWord(random, n, "abcd"), patchwork(random, n)} {
			checkFewest(t, w, sets[n])
		}
	}
	for _, w := range []string{grown(14, "ab", "a"), grown(14, "ab", "ba"), varied(14, 2), varied(14, 3), "aaaabbbbccccdd", "abcdabcdabcdab"} {
		checkFewest(t, w, sets[14])
	}
}

// P9.4: words of more than MaxTouch letters.
func TestFewestOfLongWords(t *testing.T) {
	for n := 15; n <= 160; n++ {
		for _, w := range []string{strings.Repeat("a", n), varied(n, 2)} {
			if l, e := parse.Fewest(w); len(l) > 0 || e != api.ErrArg {
				t.Errorf("Fewest(%s) = %v, %d", w, l, e)
			}
		}
	}
}
