package parse

import (
	"numnah/api"
	"numnah/fraction"
)

// countSubstrings has the numbers of substrings of each length from 0 on.
func countSubstrings(word string) []int {
	var counts []int
	for length := range len(word) + 1 {
		counts = append(counts, len(occurrences(word, length)))
	}
	return counts
}

// Substrings returns the numbers of substrings of each length from 0 to that of a word.
func Substrings(word string) ([]int, api.Errno) {
	if !isWord(word) {
		return nil, api.ErrArg
	}
	return countSubstrings(word), api.OK
}

// Delta returns the greatest quotient of the number of substrings of a length from 1 on and this length, and the smallest such length.
func Delta(word string) (api.Frac, int, api.Errno) {
	if !isWord(word) || word == "" {
		return api.Frac{}, 0, api.ErrArg
	}
	greatest, length := fraction.Whole(0), 0
	for k, count := range countSubstrings(word) {
		if k == 0 {
			continue
		}
		if f := fraction.Lowest(count, k); fraction.Compare(f, greatest) > 0 {
			greatest, length = f, k
		}
	}
	return greatest, length, api.OK
}

// Longest returns the smallest one of the longest strings that occur twice in a word, and its two smallest positions.
func Longest(word string) (string, int, int, api.Errno) {
	if !isWord(word) {
		return "", 0, 0, api.ErrArg
	}
	for length := len(word) - 1; length > 0; length-- {
		positions := occurrences(word, length)
		twice := func(s string) bool { return len(positions[s]) > 1 }
		if s, ok := smallest(word, length, twice); ok {
			return s, positions[s][0], positions[s][1], api.OK
		}
	}
	return "", 0, 0, api.ErrNone
}

// Common returns the smallest one of the longest strings that occur in two words.
func Common(u, w string) (string, api.Errno) {
	if !isWord(u) || !isWord(w) {
		return "", api.ErrArg
	}
	for length := len(u); length > 0; length-- {
		positions := occurrences(w, length)
		occurs := func(s string) bool { return len(positions[s]) > 0 }
		if s, ok := smallest(u, length, occurs); ok {
			return s, api.OK
		}
	}
	return "", api.OK
}
