package parse_test

import (
	"cmp"
	"math/rand"
	"slices"
	"strings"

	"numnah/api"
)

// The helpers of this file follow the definitions of the chapter word by word, without regard to time, so that the tests hold the package against them.

// factorsOf makes factors of numbers: a From and a Length for each.
func factorsOf(numbers ...int) []api.Factor {
	var factors []api.Factor
	for pair := range slices.Chunk(numbers, 2) {
		factors = append(factors, api.Factor{From: pair[0], Length: pair[1]})
	}
	return factors
}

// wordsOf returns all words of a length of some letters.
func wordsOf(length int, letters string) []string {
	list := []string{""}
	for range length {
		var longer []string
		for _, w := range list {
			for i := range letters {
				longer = append(longer, w+letters[i:i+1])
			}
		}
		list = longer
	}
	return list
}

// wordsUpTo returns all words of at most a length of some letters, the empty one among them.
func wordsUpTo(length int, letters string) []string {
	var list []string
	for n := range length + 1 {
		list = append(list, wordsOf(n, letters)...)
	}
	return list
}

// smallWords returns all words of up to 5 letters, and all longer ones of up to 9 letters a and b.
func smallWords() []string {
	list := wordsUpTo(5, "abcd")
	for n := 6; n <= 9; n++ {
		list = append(list, wordsOf(n, "ab")...)
	}
	return list
}

// someWord is a random word of a length of some letters.
func someWord(random *rand.Rand, length int, letters string) string {
	var b strings.Builder
	for range length {
		b.WriteByte(letters[random.Intn(len(letters))])
	}
	return b.String()
}

// patchwork is a random word of a length that repeats parts of itself.
func patchwork(random *rand.Rand, length int) string {
	w := someWord(random, 1, "abcd")
	for len(w) < length {
		if i := random.Intn(len(w)); random.Intn(3) > 0 {
			w += w[i : i+1+random.Intn(len(w)-i)]
		} else {
			w += someWord(random, 1, "abcd")
		}
	}
	return w[:length]
}

// grown is the beginning of the word that arises from a by writing a word for each letter, again and again.
func grown(length int, words ...string) string {
	put := strings.NewReplacer("a", words[0], "b", words[1])
	w := "a"
	for len(w) < length {
		w = put.Replace(w)
	}
	return w[:length]
}

// varied is a word of a length in which each next letter is the last one of the alphabet with which its last so many letters are new, if there is one.
func varied(length, many int) string {
	w := strings.Repeat("a", many)
	for len(w) < length {
		next := "a"
		for _, x := range []string{"b", "c", "d"} {
			if s := w + x; !strings.Contains(w, s[len(s)-many:]) {
				next = x
			}
		}
		w += next
	}
	return w[:length]
}

// longWords returns words of up to 160 letters: those that are well known and random ones, the same each time.
func longWords() []string {
	random := rand.New(rand.NewSource(160))
	list := []string{
		strings.Repeat("a", 160), strings.Repeat("d", 159), strings.Repeat("ab", 80), strings.Repeat("ba", 79), strings.Repeat("abcd", 40), strings.Repeat("dcba", 40), strings.Repeat("aab", 53),
		strings.Repeat("a", 159) + "b", "b" + strings.Repeat("a", 159), strings.Repeat("a", 80) + strings.Repeat("b", 80), strings.Repeat("d", 79) + "a" + strings.Repeat("d", 80),
		strings.Repeat("a", 40) + strings.Repeat("b", 40) + strings.Repeat("c", 40) + strings.Repeat("d", 40),
		grown(160, "ab", "a"), grown(160, "ab", "ba"), grown(160, "ab", "aa"), grown(89, "ab", "a"), grown(128, "ab", "ba"),
		varied(160, 2), varied(160, 3), varied(66, 3), varied(160, 4),
	}
	for _, length := range []int{10, 17, 33, 64, 100, 159, 160, 160} {
		list = append(list, someWord(random, length, "ab"), someWord(random, length, "abc"), someWord(random, length, "abcd"), patchwork(random, length), patchwork(random, length))
	}
	return list
}

// noWords returns strings that are no words.
func noWords() []string {
	return []string{
		"e", "A", "`", "z", " ", "0", "-", "\x00", "\xff", "é", "abcde", "ea", "ebca", "abeab", "abcD", "ab ", " ab", "a b", "ab\n", "a,b", "abé", "a\x00b", "\xffab", "ab\xe1",
		strings.Repeat("a", 161), strings.Repeat("ab", 81), strings.Repeat("abcd", 41), strings.Repeat("a", 160) + "e", strings.Repeat("e", 160), strings.Repeat("a", 159) + "e", strings.Repeat("a", 80) + "e" + strings.Repeat("b", 79), strings.Repeat("abcd", 100000),
	}
}

// positionsOf returns the positions of all occurrences of a string in a word.
func positionsOf(word, s string) []int {
	var list []int
	for at := range len(word) + 1 {
		if strings.HasPrefix(word[at:], s) {
			list = append(list, at)
		}
	}
	return list
}

// substringsOf returns the different strings of a length that occur in a word, in ascending order.
func substringsOf(word string, length int) []string {
	var list []string
	for end := length; end <= len(word); end++ {
		list = append(list, word[end-length:end])
	}
	slices.Sort(list)
	return slices.Compact(list)
}

// copying is the copying parse.
func copying(word string) []api.Factor {
	var factors []api.Factor
	for at := 0; at < len(word); {
		f := api.Factor{From: -1, Length: 1}
		for length := len(word) - at; length > 0; length-- {
			if first := positionsOf(word, word[at:at+length])[0]; first < at {
				f = api.Factor{From: first, Length: length}
				break
			}
		}
		factors = append(factors, f)
		at += f.Length
	}
	return factors
}

// learned returns the strings that are the factors of the learning parse.
func learned(word string) []string {
	var texts []string
	for word != "" {
		length := 1
		for length < len(word) && slices.Contains(texts, word[:length]) {
			length++
		}
		texts = append(texts, word[:length])
		word = word[length:]
	}
	return texts
}

// learning is the learning parse, and the last letters of its factors.
func learning(word string) ([]api.Factor, string) {
	var factors []api.Factor
	last := ""
	texts := learned(word)
	for _, text := range texts {
		shorter := text[:len(text)-1]
		factors = append(factors, api.Factor{From: slices.Index(texts, shorter) + 1, Length: len(text)})
		last += text[len(shorter):]
	}
	return factors, last
}

// isPlan reports whether factors are a plan for a word.
func isPlan(word string, plan []api.Factor) bool {
	at := 0
	for _, f := range plan {
		if f.Length < 1 || f.Length > len(word)-at || f.From < -1 || f.From >= at || f.From == -1 && f.Length != 1 {
			return false
		}
		if f.From >= 0 && word[f.From:][:f.Length] != word[at:][:f.Length] {
			return false
		}
		at += f.Length
	}
	return at == len(word)
}

// plansOf returns all plans for what begins at a position of a word.
func plansOf(word string, at int) [][]api.Factor {
	if at == len(word) {
		return [][]api.Factor{nil}
	}
	var list [][]api.Factor
	add := func(f api.Factor) {
		for _, plan := range plansOf(word, at+f.Length) {
			list = append(list, append([]api.Factor{f}, plan...))
		}
	}
	add(api.Factor{From: -1, Length: 1})
	for length := 1; at+length <= len(word); length++ {
		for _, from := range positionsOf(word, word[at:at+length]) {
			if from < at {
				add(api.Factor{From: from, Length: length})
			}
		}
	}
	return list
}

// cost is the cost of a plan.
func cost(plan []api.Factor, p, q int) int {
	sum := 0
	for _, f := range plan {
		sum += q
		if f.From == -1 {
			sum += p - q
		}
	}
	return sum
}

// leastCost is the smallest cost of a plan: it goes through the ends of all copies, longest ones or not.
func leastCost(word string, p, q int) int {
	costs := make([]int, len(word)+1)
	for end := 1; end <= len(word); end++ {
		costs[end] = costs[end-1] + p
		for at := range end {
			if positionsOf(word, word[at:end])[0] < at {
				costs[end] = min(costs[end], costs[at]+q)
			}
		}
	}
	return costs[len(word)]
}

// read is the word of a plan, each letter of which is looked up in the plan; it reports whether it is a plan with so many letters.
func read(plan []api.Factor, letters string) (string, bool) {
	var from []int // for each position the one from which it is copied, or -1
	for _, f := range plan {
		begin := len(from)
		if f.Length < 1 || f.Length > 160-begin || f.From < -1 || f.From >= begin || f.From == -1 && f.Length != 1 {
			return "", false
		}
		for i := range f.Length {
			if f.From == -1 {
				from = append(from, -1)
			} else {
				from = append(from, f.From+i)
			}
		}
	}
	word := ""
	for at := range from {
		for from[at] >= 0 {
			at = from[at]
		}
		number := 0 // of the single letters before this one
		for _, other := range from[:at] {
			if other == -1 {
				number++
			}
		}
		if number >= len(letters) {
			return "", false
		}
		word += letters[number : number+1]
	}
	return word, len(positionsOfNumber(from, -1)) == len(letters)
}

// positionsOfNumber returns the positions of a number in a list.
func positionsOfNumber(list []int, number int) []int {
	var positions []int
	for i, n := range list {
		if n == number {
			positions = append(positions, i)
		}
	}
	return positions
}

// isTouched reports whether an occurrence of a string contains a position of a set.
func isTouched(word string, set []int, s string) bool {
	for _, at := range positionsOf(word, s) {
		for _, x := range set {
			if at <= x && x < at+len(s) {
				return true
			}
		}
	}
	return false
}

// missed returns the first substring that a set does not touch, or the empty string.
func missed(word string, set []int) string {
	for length := 1; length <= len(word); length++ {
		for _, s := range substringsOf(word, length) {
			if !isTouched(word, set, s) {
				return s
			}
		}
	}
	return ""
}

// setsOf returns all sets of positions from 0 to n - 1: smaller ones first, and those of one size lexicographically.
func setsOf(n int) [][]int {
	sets := [][]int{nil}
	for x := range n {
		for _, set := range sets {
			sets = append(sets, append(slices.Clone(set), x))
		}
	}
	slices.SortFunc(sets, func(a, b []int) int {
		return cmp.Or(cmp.Compare(len(a), len(b)), slices.Compare(a, b))
	})
	return sets
}

// fewest is the first one of some sets that touches a word.
func fewest(word string, sets [][]int) []int {
	for _, set := range sets {
		if missed(word, set) == "" {
			return set
		}
	}
	return nil
}

// turnsOf returns the sorted turns of a word.
func turnsOf(word string) []string {
	var list []string
	turn := word
	for range len(word) {
		list = append(list, turn)
		turn = turn[1:] + turn[:1]
	}
	slices.Sort(list)
	return list
}

// lastOf has the last letters of the sorted turns.
func lastOf(word string) string {
	last := ""
	for _, turn := range turnsOf(word) {
		last += turn[len(turn)-1:]
	}
	return last
}
