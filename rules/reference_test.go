package rules_test

import (
	"math/rand"
	"slices"
	"strings"

	"numnah/api"
)

// law is the rule that a text like c(x)>d(x) writes.
func law(text string) api.Law {
	left, right, _ := strings.Cut(text, ">")
	return api.Law{Left: left, Right: right}
}

func laws(texts ...string) []api.Law {
	var list []api.Law
	for _, text := range texts {
		list = append(list, law(text))
	}
	return list
}

// tree is a term: a letter with its parts.
type tree struct {
	name  byte
	parts []tree
}

func isVariable(name byte) bool {
	return strings.IndexByte("xyz", name) >= 0
}

func (t tree) String() string {
	var texts []string
	for _, p := range t.parts {
		texts = append(texts, p.String())
	}
	if len(texts) == 0 {
		return string(t.name)
	}
	return string(t.name) + "(" + strings.Join(texts, ",") + ")"
}

func size(term string) int {
	return len(term) - strings.Count(term, "(") - strings.Count(term, ")") - strings.Count(term, ",")
}

// isTerm reports whether a string is a term: again and again, a symbol with its parts is drawn together to a single letter.
func isTerm(s string) bool {
	if strings.Trim(s, "abcdefxyz(),") != "" || size(s) > 60 {
		return false
	}
	for _, leaf := range []string{"a", "b", "x", "y", "z"} {
		s = strings.ReplaceAll(s, leaf, "t")
	}
	together := strings.NewReplacer("c(t)", "t", "d(t)", "t", "e(t,t)", "t", "f(t,t)", "t")
	for {
		shorter := together.Replace(s)
		if shorter == s {
			return s == "t"
		}
		s = shorter
	}
}

// parse is the tree of a term: the parts begin behind the brackets and commas that no other brackets are around.
func parse(term string) tree {
	t := tree{name: term[0]}
	depth, begin := 0, 2
	for i := range term {
		if depth == 1 && (term[i] == ',' || term[i] == ')') {
			t.parts = append(t.parts, parse(term[begin:i]))
			begin = i + 1
		}
		switch term[i] {
		case '(':
			depth++
		case ')':
			depth--
		}
	}
	return t
}

// places are the ways to the subterms, by the numbers of parts, in the order in which they begin.
func (t tree) places() [][]int {
	list := [][]int{nil}
	for i, p := range t.parts {
		for _, place := range p.places() {
			list = append(list, append([]int{i}, place...))
		}
	}
	return list
}

// at is the subterm at a place, and reports whether there is one.
func (t tree) at(place []int) (tree, bool) {
	for _, i := range place {
		if i >= len(t.parts) {
			return tree{}, false
		}
		t = t.parts[i]
	}
	return t, true
}

// with is a term with another subterm at a place.
func (t tree) with(place []int, other tree) tree {
	if len(place) == 0 {
		return other
	}
	parts := slices.Clone(t.parts)
	parts[place[0]] = parts[place[0]].with(place[1:], other)
	return tree{t.name, parts}
}

func (t tree) subterms() []tree {
	var list []tree
	for _, place := range t.places() {
		sub, _ := t.at(place)
		list = append(list, sub)
	}
	return list
}

// under is a term with a substitution.
func (t tree) under(s map[byte]tree) tree {
	if u, ok := s[t.name]; ok {
		return u
	}
	var parts []tree
	for _, p := range t.parts {
		parts = append(parts, p.under(s))
	}
	return tree{t.name, parts}
}

// fitting gives each variable of the pattern what the term has there: if any substitution makes the pattern the term, this one does.
func fitting(pattern, t tree) (map[byte]tree, bool) {
	s := map[byte]tree{}
	for _, place := range pattern.places() {
		if v, _ := pattern.at(place); isVariable(v.name) {
			sub, ok := t.at(place)
			if !ok {
				return nil, false
			}
			s[v.name] = sub
		}
	}
	return s, pattern.under(s).String() == t.String()
}

func hasInstance(term, pattern string) bool {
	for _, sub := range parse(term).subterms() {
		if _, ok := fitting(parse(pattern), sub); ok {
			return true
		}
	}
	return false
}

// rewritten is a term rewritten by a rule at a place, and reports whether the rule fits there.
func rewritten(l api.Law, t tree, place []int) (tree, bool) {
	sub, _ := t.at(place)
	s, ok := fitting(parse(l.Left), sub)
	if !ok {
		return tree{}, false
	}
	return t.with(place, parse(l.Right).under(s)), true
}

// nextTerms are the next terms in ascending order, also those that are too large.
func nextTerms(rules []api.Law, term string) []string {
	var list []string
	t := parse(term)
	for _, place := range t.places() {
		for _, l := range rules {
			if u, ok := rewritten(l, t, place); ok {
				list = append(list, u.String())
			}
		}
	}
	slices.Sort(list)
	return slices.Compact(list)
}

// isBelow reports whether a place is that of a part, or of a part of a part, and so on.
func isBelow(place, other []int) bool {
	return len(place) > len(other) && slices.Equal(place[:len(other)], other)
}

// step is a term after one step to a normal form, and reports whether there is one.
func step(rules []api.Law, term string) (string, bool) {
	t := parse(term)
	var fit [][]int
	for _, place := range t.places() {
		if slices.ContainsFunc(rules, func(l api.Law) bool { _, ok := rewritten(l, t, place); return ok }) {
			fit = append(fit, place)
		}
	}
	for _, place := range fit {
		if slices.ContainsFunc(fit, func(other []int) bool { return isBelow(other, place) }) {
			continue
		}
		for _, l := range rules {
			if u, ok := rewritten(l, t, place); ok {
				return u.String(), true
			}
		}
	}
	return "", false
}

// normal is the normal form with the number of steps, or ErrFull.
func normal(rules []api.Law, term string, most int) (string, int, api.Errno) {
	for steps := range most + 1 {
		next, ok := step(rules, term)
		if !ok {
			return term, steps, api.OK
		}
		if size(next) > 60 {
			break
		}
		term = next
	}
	return "", 0, api.ErrFull
}

// greater is the path order as the chapter defines it.
func greater(precedence string, s, t tree) bool {
	if isVariable(t.name) {
		return strings.IndexByte(s.String(), t.name) >= 0 && s.String() != t.String()
	}
	if isVariable(s.name) {
		return false
	}
	for _, p := range s.parts {
		if p.String() == t.String() || greater(precedence, p, t) {
			return true
		}
	}
	for _, p := range t.parts {
		if !greater(precedence, s, p) {
			return false
		}
	}
	if s.name != t.name {
		return strings.IndexByte(precedence, s.name) < strings.IndexByte(precedence, t.name)
	}
	for i, p := range s.parts {
		if p.String() != t.parts[i].String() {
			return greater(precedence, p, t.parts[i])
		}
	}
	return false
}

// proves reports whether Left > Right for all rules.
func proves(rules []api.Law, precedence string) bool {
	for _, l := range rules {
		if !greater(precedence, parse(l.Left), parse(l.Right)) {
			return false
		}
	}
	return true
}

// allPrecedences are all of them in ascending order.
func allPrecedences() []string {
	list := []string{""}
	for range 6 {
		var longer []string
		for _, p := range list {
			for _, s := range "abcdef" {
				if !strings.ContainsRune(p, s) {
					longer = append(longer, p+string(s))
				}
			}
		}
		list = longer
	}
	return list
}

// eval is the value of a term for values of the variables.
func eval(reading [][]int, t tree, values [3]int) int {
	if isVariable(t.name) {
		return values[t.name-'x']
	}
	numbers := reading[t.name-'a']
	sum := numbers[0]
	for i, p := range t.parts {
		sum += numbers[1+i] * eval(reading, p, values)
	}
	return sum
}

// decreases reports whether a reading decreases all rules. No value of a side is above 10^5 where the variables are 0, so the values where one of them is 10^6 tell which factors are less.
func decreases(rules []api.Law, reading [][]int) bool {
	for _, l := range rules {
		left, right := parse(l.Left), parse(l.Right)
		for _, values := range [][3]int{{}, {1000000, 0, 0}, {0, 1000000, 0}, {0, 0, 1000000}, {1000000, 1000000, 1000000}, {1, 2, 3}} {
			if eval(reading, left, values) <= eval(reading, right, values) {
				return false
			}
		}
	}
	return true
}

// read is the reading of a list of all its numbers.
func read(numbers ...int) [][]int {
	return [][]int{{numbers[0]}, {numbers[1]}, slices.Clone(numbers[2:4]), slices.Clone(numbers[4:6]), slices.Clone(numbers[6:9]), slices.Clone(numbers[9:12])}
}

// allReadings are all readings.
func allReadings() [][][]int {
	first, factor := []int{0, 1, 2}, []int{1, 2}
	lists := [][]int{nil}
	for _, choice := range [][]int{first, first, first, factor, first, factor, first, factor, factor, first, factor, factor} {
		var longer [][]int
		for _, l := range lists {
			for _, n := range choice {
				longer = append(longer, append(slices.Clone(l), n))
			}
		}
		lists = longer
	}
	var readings [][][]int
	for _, l := range lists {
		readings = append(readings, read(l...))
	}
	return readings
}

// exactly are the terms that can be reached by exactly this number of steps, also those that are too large.
func exactly(rules []api.Law, term string, steps int) []string {
	terms := []string{term}
	for range steps {
		var list []string
		for _, t := range terms {
			list = append(list, nextTerms(rules, t)...)
		}
		slices.Sort(list)
		terms = slices.Compact(list)
	}
	return terms
}

// reach are the terms that can be reached, ordered as Reach orders them, or ErrFull.
func reach(rules []api.Law, term string, steps int) ([]string, api.Errno) {
	var all []string
	for k := range steps + 1 {
		for _, t := range exactly(rules, term, k) {
			if !slices.Contains(all, t) {
				all = append(all, t)
			}
		}
		if len(all) > 300 || slices.ContainsFunc(all, func(t string) bool { return size(t) > 60 }) {
			return nil, api.ErrFull
		}
	}
	return all, api.OK
}

// shortest is the smallest number of terms of a loop that begins with a term, 0 if there is none with this number of steps.
func shortest(rules []api.Law, term string, steps int) int {
	for k := 1; k <= steps; k++ {
		if slices.ContainsFunc(exactly(rules, term, k), func(t string) bool { return hasInstance(t, term) }) {
			return k + 1
		}
	}
	return 0
}

func isLoop(rules []api.Law, terms []string) bool {
	for i := 1; i < len(terms); i++ {
		if !slices.Contains(nextTerms(rules, terms[i-1]), terms[i]) {
			return false
		}
	}
	return len(terms) > 1 && hasInstance(terms[len(terms)-1], terms[0])
}

// termsOf are all terms of a size with these letters.
func termsOf(size int, letters string) []string {
	var list []string
	for i := range letters {
		s := letters[i : i+1]
		switch {
		case strings.Contains("cd", s) && size > 1:
			for _, part := range termsOf(size-1, letters) {
				list = append(list, s+"("+part+")")
			}
		case strings.Contains("ef", s):
			for first := 1; first < size-1; first++ {
				for _, left := range termsOf(first, letters) {
					for _, right := range termsOf(size-1-first, letters) {
						list = append(list, s+"("+left+","+right+")")
					}
				}
			}
		case strings.Contains("abxyz", s) && size == 1:
			list = append(list, s)
		}
	}
	return list
}

func termsUpTo(size int, letters string) []string {
	var list []string
	for n := 1; n <= size; n++ {
		list = append(list, termsOf(n, letters)...)
	}
	return list
}

func pick(random *rand.Rand, letters string) string {
	i := random.Intn(len(letters))
	return letters[i : i+1]
}

// someTerm is a random term of a size; leaves are the letters without parts that it may have.
func someTerm(random *rand.Rand, size int, leaves string) string {
	if size < 2 {
		return pick(random, leaves)
	}
	if size == 2 || random.Intn(2) == 0 {
		return pick(random, "cd") + "(" + someTerm(random, size-1, leaves) + ")"
	}
	first := 1 + random.Intn(size-2)
	return pick(random, "ef") + "(" + someTerm(random, first, leaves) + "," + someTerm(random, size-1-first, leaves) + ")"
}

// areLaws reports whether these are rules.
func areLaws(rules []api.Law) bool {
	for _, l := range rules {
		if !isTerm(l.Left) || !isTerm(l.Right) || size(l.Left) > 12 || size(l.Right) > 12 || isVariable(l.Left[0]) {
			return false
		}
		for _, v := range "xyz" {
			if strings.ContainsRune(l.Right, v) && !strings.ContainsRune(l.Left, v) {
				return false
			}
		}
	}
	return len(rules) <= 6
}

// someLaws are random rules with sides of up to a size.
func someLaws(random *rand.Rand, count, most int) []api.Law {
	var list []api.Law
	for len(list) < count {
		l := api.Law{Left: someTerm(random, 1+random.Intn(most), "abxyz"), Right: someTerm(random, 1+random.Intn(most), "abxyz")}
		if areLaws([]api.Law{l}) {
			list = append(list, l)
		}
	}
	return list
}

// smallLaws are all single rules with sides of up to a size with these letters.
func smallLaws(most int, letters string) []api.Law {
	var list []api.Law
	terms := termsUpTo(most, letters)
	for _, left := range terms {
		for _, right := range terms {
			if l := (api.Law{Left: left, Right: right}); areLaws([]api.Law{l}) {
				list = append(list, l)
			}
		}
	}
	return list
}

// named are rules with what the chapter speaks of: the empty list, rules that fit at many places, a variable twice, and several rules with the same Left.
func named() [][]api.Law {
	return [][]api.Law{
		nil, {},
		laws("e(x,y)>e(y,x)"),
		laws("c(d(x))>d(c(x))"),
		laws("c(x)>d(x)"),
		laws("c(x)>c(x)"),
		laws("c(x)>c(c(x))"),
		laws("a>b", "b>a"),
		laws("a>b", "a>c(b)", "a>a"),
		laws("e(x,x)>x"),
		laws("e(x,x)>f(x,x)", "f(x,y)>c(y)"),
		laws("c(c(x))>d(x)", "c(x)>x"),
		laws("e(e(x,y),z)>e(x,e(y,z))"),
		laws("e(x,e(y,z))>e(e(x,y),z)"),
		laws("f(a,x)>x", "f(c(x),y)>c(f(x,y))"),
		laws("e(a,x)>a", "e(c(x),y)>f(y,e(x,y))", "f(a,x)>x", "f(c(x),y)>c(f(x,y))"),
		laws("c(x)>e(x,x)"),
		laws("c(a)>d(c(a))"),
		laws("c(x)>d(c(d(x)))"),
		laws("e(c(x),y)>e(x,c(y))", "e(a,x)>x"),
		laws("a>b", "b>c(a)", "c(x)>d(x)", "d(x)>x", "e(x,y)>f(y,x)", "f(x,y)>x"),
		laws("e(e(e(a,b),e(x,y)),e(z,z))>f(f(f(x,y),z),f(a,f(a,b)))"),
	}
}
