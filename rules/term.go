package rules

import (
	"iter"
	"strings"

	"numnah/api"
)

const (
	symbols   = "abcdef"
	variables = "xyz"
)

// node is a term: a variable or an application.
type node interface {
	text() string
	size() int
}

// variable is the place of a variable among all of them.
type variable int

func (v variable) text() string { return variables[v : v+1] }
func (v variable) size() int    { return 1 }

// application is a symbol, by its place among all of them, with its parts. Its text is kept, since terms are compared and found by it.
type application struct {
	symbol  int
	parts   []node
	written string
	count   int
}

func (a application) text() string { return a.written }
func (a application) size() int    { return a.count }

// partsOfSymbol is the number of parts that a symbol has: the first two have none, the next two one, and the last two two.
func partsOfSymbol(symbol int) int {
	return symbol / 2
}

// apply makes a term of a symbol and its parts.
func apply(symbol int, parts []node) application {
	a := application{symbol: symbol, parts: parts, written: symbols[symbol : symbol+1], count: 1}
	var texts []string
	for _, p := range parts {
		texts = append(texts, p.text())
		a.count += p.size()
	}
	if len(parts) > 0 {
		a.written += "(" + strings.Join(texts, ",") + ")"
	}
	return a
}

// partsOf are the parts of a term; a variable has none.
func partsOf(t node) []node {
	if a, ok := t.(application); ok {
		return a.parts
	}
	return nil
}

// subterms are a term, its parts, their parts, and so on.
func subterms(t node) iter.Seq[node] {
	return func(yield func(node) bool) {
		visit(t, yield)
	}
}

// visit visits the subterms of a term until yield answers false, and reports whether it never did.
func visit(t node, yield func(node) bool) bool {
	if !yield(t) {
		return false
	}
	for _, p := range partsOf(t) {
		if !visit(p, yield) {
			return false
		}
	}
	return true
}

// variablesOf are the variables that occur in a term, each as often as it does.
func variablesOf(t node) []variable {
	var list []variable
	for s := range subterms(t) {
		if v, ok := s.(variable); ok {
			list = append(list, v)
		}
	}
	return list
}

// Size returns the number of symbols and variables of a term.
func Size(term string) (int, api.Errno) {
	t, ok := readTerm(term)
	if !ok {
		return 0, api.ErrSyntax
	}
	return t.size(), api.OK
}
