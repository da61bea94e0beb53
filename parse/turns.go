package parse

import (
	"slices"

	"numnah/api"
)

// sortedTurns has the turns of a word, one for each position at which one may begin.
func sortedTurns(word string) []string {
	var turns []string
	for at := range len(word) {
		turns = append(turns, word[at:]+word[:at])
	}
	slices.Sort(turns)
	return turns
}

// lastLetters has the letters at the ends of words that are not empty.
func lastLetters(words []string) []byte {
	var letters []byte
	for _, w := range words {
		letters = append(letters, w[len(w)-1])
	}
	return letters
}

// Turns returns the last letters of the sorted turns of a word, and the first position of the word among these.
func Turns(word string) (string, int, api.Errno) {
	if !isWord(word) {
		return "", 0, api.ErrArg
	}
	turns := sortedTurns(word)
	position, _ := slices.BinarySearch(turns, word)
	return string(lastLetters(turns)), position, api.OK
}

// Runs returns the number of longest parts of the last letters of a word's turns that consist of one letter.
func Runs(word string) (int, api.Errno) {
	if !isWord(word) {
		return 0, api.ErrArg
	}
	return len(slices.Compact(lastLetters(sortedTurns(word)))), api.OK
}
