package parse_test

import (
	"slices"
	"strings"
	"testing"

	"numnah/api"
	"numnah/parse"
)

// P9.1
func TestCopyingByHand(t *testing.T) {
	for _, x := range []struct {
		word string
		want []api.Factor
	}{
		{"", nil},
		{"a", factorsOf(-1, 1)},
		{"d", factorsOf(-1, 1)},
		{"abcd", factorsOf(-1, 1, -1, 1, -1, 1, -1, 1)},
		{"abab", factorsOf(-1, 1, -1, 1, 0, 2)},
		// An occurrence that overlaps its factor.
		{"aa", factorsOf(-1, 1, 0, 1)},
		{"aaaa", factorsOf(-1, 1, 0, 3)},
		{"abababa", factorsOf(-1, 1, -1, 1, 0, 5)},
		{"aabaabaab", factorsOf(-1, 1, 0, 1, -1, 1, 0, 6)},
		{"baaab", factorsOf(-1, 1, -1, 1, 1, 2, 0, 1)},
		{strings.Repeat("c", 160), factorsOf(-1, 1, 0, 159)},
		{strings.Repeat("dcb", 53) + "d", factorsOf(-1, 1, -1, 1, -1, 1, 0, 157)},
		// Several earlier occurrences: of a it is the first one, of the longest string it may be a later one.
		{"abaca", factorsOf(-1, 1, -1, 1, 0, 1, -1, 1, 0, 1)},
		{"abcabdabc", factorsOf(-1, 1, -1, 1, -1, 1, 0, 2, -1, 1, 0, 3)},
		{"abcabdabdabc", factorsOf(-1, 1, -1, 1, -1, 1, 0, 2, -1, 1, 3, 5, 2, 1)},
		{"acabadabab", factorsOf(-1, 1, -1, 1, 0, 1, -1, 1, 0, 1, -1, 1, 2, 3, 3, 1)},
		{"abacabaca", factorsOf(-1, 1, -1, 1, 0, 1, -1, 1, 0, 5)},
		// The first occurrence of a longest string is later than that of a shorter one.
		{"abdacdac", factorsOf(-1, 1, -1, 1, -1, 1, 0, 1, -1, 1, 2, 3)},
	} {
		if l, e := parse.Copying(x.word); !slices.Equal(l, x.want) || e != api.OK {
			t.Errorf("Copying(%s) = %v, %d, not %v", x.word, l, e, x.want)
		}
	}
}

// P9.1: the definition, for all small words and the long ones.
func TestCopying(t *testing.T) {
	for _, w := range slices.Concat(smallWords(), wordsOf(6, "abcd"), wordsOf(12, "ab"), longWords()) {
		if l, e := parse.Copying(w); e != api.OK || !slices.Equal(l, copying(w)) {
			t.Errorf("Copying(%s) = %v, %d, not %v", w, l, e, copying(w))
		}
	}
}
