package parse

import (
	"maps"
	"math/bits"
	"slices"

	"numnah/api"
)

// arePositions reports whether numbers are positions of a word, in strictly ascending order.
func arePositions(word string, set []int) bool {
	before := -1
	for _, at := range set {
		if at <= before || at >= len(word) {
			return false
		}
		before = at
	}
	return true
}

// touched has the strings of a length in a word of which an occurrence contains a position of a set, each with true.
func touched(word string, set []int, length int) map[string]bool {
	is := map[string]bool{}
	for at, s := range substrings(word, length) {
		next, _ := slices.BinarySearch(set, at)
		if next < len(set) && set[next] < at+length {
			is[s] = true
		}
	}
	return is
}

// Touches reports whether a set of positions touches a word; if not, it returns the first substring that the set does not touch.
func Touches(word string, set []int) (string, bool, api.Errno) {
	if !isWord(word) || !arePositions(word, set) {
		return "", false, api.ErrArg
	}
	for length := 1; length <= len(word); length++ {
		is := touched(word, set, length)
		missed := func(s string) bool { return !is[s] }
		if s, ok := smallest(word, length, missed); ok {
			return s, false, api.OK
		}
	}
	return "", true, api.OK
}

// mask is a set of positions of a word of at most MaxTouch letters. The last position is the lowest digit: of two sets of one size, the greater number is the lexicographically smaller list.
type mask uint

// span is the set of so many positions, from one on, of a word of so many letters.
func span(at, length, letters int) mask {
	return (1<<length - 1) << (letters - at - length)
}

func (m mask) size() int {
	return bits.OnesCount(uint(m))
}

// meets reports whether a set has a position of each of some sets.
func (m mask) meets(sets []mask) bool {
	for _, s := range sets {
		if m&s == 0 {
			return false
		}
	}
	return true
}

// list has the positions in ascending order.
func (m mask) list(letters int) []int {
	var list []int
	for at := range letters {
		if m&span(at, 1, letters) != 0 {
			list = append(list, at)
		}
	}
	return list
}

// reaches has, for each non-empty substring of a word, the set of all positions that its occurrences contain. A set touches the word if it has one of each.
func reaches(word string) []mask {
	reach := map[string]mask{}
	for length := 1; length <= len(word); length++ {
		for at, s := range substrings(word, length) {
			reach[s] |= span(at, length, len(word))
		}
	}
	return slices.Compact(slices.Sorted(maps.Values(reach)))
}

// Fewest returns the lexicographically smallest one of the smallest sets that touch a word.
func Fewest(word string) ([]int, api.Errno) {
	if !isWord(word) || len(word) > api.MaxTouch {
		return nil, api.ErrArg
	}
	sets := reaches(word)
	all := span(0, len(word), len(word))
	fewest := all
	// Of those of one size, the last one is the one that is asked for.
	for m := range all + 1 {
		if m.size() <= fewest.size() && m.meets(sets) {
			fewest = m
		}
	}
	return fewest.list(len(word)), api.OK
}
