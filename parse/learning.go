package parse

import (
	"slices"
	"strings"

	"numnah/api"
)

// learning has the factors of the learning parse of a word.
func learning(word string) []api.Factor {
	numbers := map[string]int{}
	var factors []api.Factor
	begin := 0
	for i := range len(word) {
		text := word[begin : i+1]
		if numbers[text] > 0 && i+1 < len(word) {
			continue
		}
		factors = append(factors, api.Factor{From: numbers[text[:len(text)-1]], Length: len(text)})
		numbers[text] = len(factors)
		begin = i + 1
	}
	return factors
}

// Learning returns the factors of the learning parse of a word.
func Learning(word string) ([]api.Factor, api.Errno) {
	if !isWord(word) {
		return nil, api.ErrArg
	}
	return learning(word), api.OK
}

// Unlearn returns the word whose learning parse has certain factors, of which the last letters are given.
func Unlearn(factors []api.Factor, last string) (string, api.Errno) {
	if !isWord(last) || len(factors) != len(last) {
		return "", api.ErrArg
	}
	texts := []string{""} // what each number stands for
	read := func(f api.Factor, letter string) bool {
		if f.From < 0 || f.From >= len(texts) {
			return false
		}
		texts = append(texts, texts[f.From]+letter)
		return true
	}
	for i, f := range factors {
		if !read(f, last[i:i+1]) {
			return "", api.ErrArg
		}
	}
	// No other word can have these factors; whether this one has them shows best when it is parsed.
	word := strings.Join(texts, "")
	if !isWord(word) || !slices.Equal(learning(word), factors) {
		return "", api.ErrArg
	}
	return word, api.OK
}
