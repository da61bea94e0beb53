package parse

import (
	"strings"

	"numnah/api"
)

// single is a factor that is one letter and no copy.
func single() api.Factor {
	return api.Factor{From: -1, Length: 1}
}

// longestCopy is the longest string that begins at a position of a word and has an earlier occurrence, or a single letter if there is none.
func longestCopy(word string, at int) api.Factor {
	longest := single()
	for length := 1; at+length <= len(word); length++ {
		// An earlier occurrence may overlap the string, but ends before it.
		from := strings.Index(word[:at+length-1], word[at:at+length])
		if from < 0 {
			break
		}
		longest = api.Factor{From: from, Length: length}
	}
	return longest
}

// Copying returns the factors of the copying parse of a word.
func Copying(word string) ([]api.Factor, api.Errno) {
	if !isWord(word) {
		return nil, api.ErrArg
	}
	var factors []api.Factor
	for at := 0; at < len(word); {
		f := longestCopy(word, at)
		factors = append(factors, f)
		at += f.Length
	}
	return factors, api.OK
}
