package rules

import (
	"iter"
	"strings"

	"numnah/api"
)

// order is the path order of a precedence. It meets the same two terms again and again, so it keeps by their texts what it has found of them.
type order struct {
	precedence string
	known      map[[2]string]bool
}

func pathOrder(precedence string) *order {
	return &order{precedence, map[[2]string]bool{}}
}

// isPrecedence reports whether a string has each symbol once.
func isPrecedence(s string) bool {
	for i := range symbols {
		if strings.IndexByte(s, symbols[i]) < 0 {
			return false
		}
	}
	return len(s) == len(symbols)
}

// precedences are all precedences that begin with a string, in ascending order.
func precedences(begin string) iter.Seq[string] {
	return func(yield func(string) bool) {
		if len(begin) == len(symbols) {
			yield(begin)
			return
		}
		for i := range symbols {
			if strings.IndexByte(begin, symbols[i]) >= 0 {
				continue
			}
			for p := range precedences(begin + symbols[i:i+1]) {
				if !yield(p) {
					return
				}
			}
		}
	}
}

// above reports whether a symbol is greater than another one.
func (o *order) above(g, h int) bool {
	return strings.IndexByte(o.precedence, symbols[g]) < strings.IndexByte(o.precedence, symbols[h])
}

// greater reports whether s > t.
func (o *order) greater(s, t node) bool {
	pair := [2]string{s.text(), t.text()}
	is, ok := o.known[pair]
	if !ok {
		is = o.compare(s, t)
		o.known[pair] = is
	}
	return is
}

func (o *order) compare(s, t node) bool {
	g, ok := s.(application)
	if !ok {
		return false
	}
	// This includes the variables that occur in s: each of them is a part, or occurs in a part that is another term, and so is less than that.
	for _, part := range g.parts {
		if part.text() == t.text() || o.greater(part, t) {
			return true
		}
	}
	h, ok := t.(application)
	if !ok {
		return false
	}
	if g.symbol == h.symbol {
		return o.greaterAtFirst(g, h) && o.greaterThanAll(g, h.parts)
	}
	return o.above(g.symbol, h.symbol) && o.greaterThanAll(g, h.parts)
}

// greaterAtFirst reports whether the first part of g that is not the part of h at its place is greater than that.
func (o *order) greaterAtFirst(g, h application) bool {
	for i, part := range g.parts {
		if part.text() != h.parts[i].text() {
			return o.greater(part, h.parts[i])
		}
	}
	return false
}

func (o *order) greaterThanAll(s node, terms []node) bool {
	for _, t := range terms {
		if !o.greater(s, t) {
			return false
		}
	}
	return true
}

// proves reports whether Left > Right for all rules.
func (o *order) proves(laws []law) bool {
	for _, l := range laws {
		if !o.greater(l.left, l.right) {
			return false
		}
	}
	return true
}

// Greater reports whether s > t in the path order of a precedence.
func Greater(precedence, s, t string) (bool, api.Errno) {
	if !isPrecedence(precedence) {
		return false, api.ErrArg
	}
	first, ok := readTerm(s)
	if !ok {
		return false, api.ErrSyntax
	}
	second, ok := readTerm(t)
	if !ok {
		return false, api.ErrSyntax
	}
	return pathOrder(precedence).greater(first, second), api.OK
}

// Orient returns the smallest precedence for which Left > Right for all rules.
func Orient(rules []api.Law) (string, api.Errno) {
	laws, ok := readLaws(rules)
	if !ok {
		return "", api.ErrArg
	}
	for p := range precedences("") {
		if pathOrder(p).proves(laws) {
			return p, api.OK
		}
	}
	return "", api.ErrNone
}

// Proves returns OK if Left > Right for all rules in the path order of a precedence.
func Proves(rules []api.Law, precedence string) api.Errno {
	laws, ok := readLaws(rules)
	if !ok || !isPrecedence(precedence) {
		return api.ErrArg
	}
	if !pathOrder(precedence).proves(laws) {
		return api.ErrAnswer
	}
	return api.OK
}
