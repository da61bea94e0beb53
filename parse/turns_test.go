package parse_test

import (
	"slices"
	"strings"
	"testing"

	"numnah/api"
	"numnah/parse"
)

// P9.5
func TestTurnsByHand(t *testing.T) {
	for _, x := range []struct {
		word, last     string
		position, runs int
	}{
		{"", "", 0, 0},
		{"a", "a", 0, 1},
		{"d", "d", 0, 1},
		{"ab", "ba", 0, 2},
		{"ba", "ba", 1, 2},
		{"abcd", "dabc", 0, 4},
		{"dcba", "bcda", 3, 4},
		{"bcda", "dabc", 1, 4},
		{"aab", "baa", 0, 2},
		{"aba", "baa", 1, 2},
		{"baa", "baa", 2, 2},
		{"abaab", "bbaaa", 1, 2},
		{"abcab", "cbaab", 1, 4},
		// Equal turns count as often as they arise, and the first one is that of the word.
		{"aa", "aa", 0, 1},
		{"abab", "bbaa", 0, 2},
		{"baba", "bbaa", 2, 2},
		{"cabcab", "ccaabb", 4, 3},
		{"abaaba", "bbaaaa", 2, 2},
		{"baabaa", "bbaaaa", 4, 2},
		{"aaaa", "aaaa", 0, 1},
		{strings.Repeat("a", 160), strings.Repeat("a", 160), 0, 1},
		{strings.Repeat("ba", 80), strings.Repeat("b", 80) + strings.Repeat("a", 80), 80, 2},
		{strings.Repeat("dcba", 40), strings.Repeat("b", 40) + strings.Repeat("c", 40) + strings.Repeat("d", 40) + strings.Repeat("a", 40), 120, 4},
		{strings.Repeat("a", 159) + "b", "b" + strings.Repeat("a", 159), 0, 2},
		{"b" + strings.Repeat("a", 159), "b" + strings.Repeat("a", 159), 159, 2},
		{strings.Repeat("a", 100) + "b" + strings.Repeat("a", 59), "b" + strings.Repeat("a", 159), 59, 2},
	} {
		if s, i, e := parse.Turns(x.word); s != x.last || i != x.position || e != api.OK {
			t.Errorf("Turns(%s) = %s, %d, %d, not %s, %d", x.word, s, i, e, x.last, x.position)
		}
		if n, e := parse.Runs(x.word); n != x.runs || e != api.OK {
			t.Errorf("Runs(%s) = %d, %d, not %d", x.word, n, e, x.runs)
		}
	}
}

// runsOf counts the letters that no equal one stands before.
func runsOf(s string) int {
	runs := 0
	before := byte(0)
	for i := range len(s) {
		if s[i] != before {
			runs++
		}
		before = s[i]
	}
	return runs
}

// P9.5: the definition, for all small words and the long ones.
func TestTurns(t *testing.T) {
	for _, w := range slices.Concat(smallWords(), wordsOf(6, "abcd"), wordsOf(12, "ab"), longWords()) {
		last := lastOf(w)
		position := max(0, slices.Index(turnsOf(w), w))
		if s, i, e := parse.Turns(w); s != last || i != position || e != api.OK {
			t.Errorf("Turns(%s) = %s, %d, %d, not %s, %d", w, s, i, e, last, position)
		}
		if n, e := parse.Runs(w); n != runsOf(last) || e != api.OK {
			t.Errorf("Runs(%s) = %d, %d, not %d", w, n, e, runsOf(last))
		}
	}
}
