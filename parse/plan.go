package parse

import (
	"iter"

	"numnah/api"
)

// placed visits the factors of a plan, each with the position at which it begins.
func placed(plan []api.Factor) iter.Seq2[int, api.Factor] {
	return func(yield func(int, api.Factor) bool) {
		at := 0
		for _, f := range plan {
			if !yield(at, f) {
				return
			}
			at += f.Length
		}
	}
}

// fits reports whether a factor may begin at a position of a word of so many letters.
func fits(f api.Factor, at, letters int) bool {
	if f.Length < 1 || f.Length > letters-at {
		return false
	}
	return f == single() || f.From >= 0 && f.From < at
}

// countSingles is the number of the single letters of a plan for any word. It reports whether the factors are one.
func countSingles(plan []api.Factor) (int, bool) {
	count := 0
	for at, f := range placed(plan) {
		if !fits(f, at, api.MaxWord) {
			return 0, false
		}
		if f == single() {
			count++
		}
	}
	return count, true
}

// Read returns the word of a plan whose single letters are given.
func Read(plan []api.Factor, letters string) (string, api.Errno) {
	if !isWord(letters) {
		return "", api.ErrArg
	}
	if count, ok := countSingles(plan); !ok || count != len(letters) {
		return "", api.ErrArg
	}
	var word []byte
	read := func(f api.Factor) {
		if f == single() {
			word = append(word, letters[0])
			letters = letters[1:]
			return
		}
		// Letter by letter, since a copy may overlap: then it goes on with what it has just read.
		for i := range f.Length {
			word = append(word, word[f.From+i])
		}
	}
	for _, f := range plan {
		read(f)
	}
	return string(word), api.OK
}

func isPrice(p int) bool {
	return p >= 1 && p <= api.MaxPrice
}

// Cheapest returns a plan for a word with the smallest cost, and its cost; p is the price of a single letter, q that of a copy.
func Cheapest(word string, p, q int) ([]api.Factor, int, api.Errno) {
	if !isWord(word) || !isPrice(p) || !isPrice(q) {
		return nil, 0, api.ErrArg
	}
	firsts := make([]api.Factor, len(word)) // the first factor of a cheapest plan for what begins at each position
	costs := make([]int, len(word)+1)       // and the cost of this plan
	for at := len(word) - 1; at >= 0; at-- {
		firsts[at], costs[at] = single(), p+costs[at+1]
		// A shorter copy is of no use: what begins later costs no more, since a plan for what begins earlier serves it when its first letters are taken away.
		f := longestCopy(word, at)
		if cost := q + costs[at+f.Length]; f != single() && cost < costs[at] {
			firsts[at], costs[at] = f, cost
		}
	}
	var plan []api.Factor
	for at := 0; at < len(word); at += firsts[at].Length {
		plan = append(plan, firsts[at])
	}
	return plan, costs[0], api.OK
}

// isPlanFor reports whether factors are a plan for a word.
func isPlanFor(word string, plan []api.Factor) bool {
	end := 0
	for at, f := range placed(plan) {
		if !fits(f, at, len(word)) {
			return false
		}
		end = at + f.Length
		if f != single() && word[f.From:f.From+f.Length] != word[at:end] {
			return false
		}
	}
	return end == len(word)
}

// Cost returns the cost of a plan for a word.
func Cost(word string, plan []api.Factor, p, q int) (int, api.Errno) {
	if !isWord(word) || !isPrice(p) || !isPrice(q) {
		return 0, api.ErrArg
	}
	if !isPlanFor(word, plan) {
		return 0, api.ErrAnswer
	}
	cost := 0
	for _, f := range plan {
		if f == single() {
			cost += p
		} else {
			cost += q
		}
	}
	return cost, api.OK
}
