// Package card is layer 1: Boolean functions, their prime implicants and least covers, and their weights, if they have any.
package card

import (
	"strings"

	"numnah/api"
)

// maxPoints is the greatest number of points of a function.
const maxPoints = 1 << api.MaxVars

// table is a function that has been read.
type table struct {
	vars        int
	ones, zeros pointSet
}

// readTable reads a function and reports whether the text is one.
func readTable(function string) (table, bool) {
	f := table{vars: 1}
	for f.vars < api.MaxVars && 1<<f.vars < len(function) {
		f.vars++
	}
	if 1<<f.vars != len(function) {
		return table{}, false
	}
	for p := range len(function) {
		switch function[p] {
		case '0':
			f.zeros |= single(p)
		case '1':
			f.ones |= single(p)
		case '-':
		default:
			return table{}, false
		}
	}
	return f, true
}

// readTotal reads a total function and reports whether the text is one.
func readTotal(function string) (table, bool) {
	f, ok := readTable(function)
	if !ok || strings.Contains(function, "-") {
		return table{}, false
	}
	return f, true
}

// size is the number of the points at which the function has a value.
func (f table) size() int {
	return 1 << f.vars
}
