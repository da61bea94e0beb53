package strip

import (
	"slices"

	"numnah/api"
)

// digits are the digits of the colours.
const digits = "012"

// allowed tells for each colour which ones may stand next to it.
type allowed [api.MaxColours][api.MaxColours]bool

// rule is a rule that has been read.
type rule struct {
	colours       int
	beside, below allowed
}

// readAllowed reads lists of numbers 0 and 1, and reports whether they are as many as the colours.
func readAllowed(lists [][]int, colours int) (allowed, bool) {
	var may allowed
	if len(lists) != colours {
		return may, false
	}
	for a, list := range lists {
		if len(list) != colours {
			return may, false
		}
		for b, number := range list {
			if number != 0 && number != 1 {
				return may, false
			}
			may[a][b] = number == 1
		}
	}
	return may, true
}

// readRule reads a rule and reports whether it is one.
func readRule(r api.Rule) (rule, bool) {
	if r.Q < 1 || r.Q > api.MaxColours {
		return rule{}, false
	}
	beside, ok := readAllowed(r.Beside, r.Q)
	if !ok {
		return rule{}, false
	}
	below, ok := readAllowed(r.Below, r.Q)
	return rule{colours: r.Q, beside: beside, below: below}, ok
}

// readStrip reads a rule, and reports whether it is one and the strip is a strip of its colours with at least one row.
func readStrip(r api.Rule, strip []string) (rule, bool) {
	a, ok := readRule(r)
	return a, ok && a.isStrip(strip)
}

// colour is that of a digit.
func colour(digit byte) int {
	return int(digit) - '0'
}

func (r rule) isStrip(strip []string) bool {
	if len(strip) < 1 || !isLength(len(strip)) || !isWidth(len(strip[0])) {
		return false
	}
	for _, row := range strip {
		if len(row) != len(strip[0]) {
			return false
		}
		for i := range len(row) {
			if a := colour(row[i]); a < 0 || a >= r.colours {
				return false
			}
		}
	}
	return true
}

// isRow reports whether all neighbors in a row may stand beside each other.
func (r rule) isRow(row string) bool {
	for i := range len(row) - 1 {
		if !r.beside[colour(row[i])][colour(row[i+1])] {
			return false
		}
	}
	return true
}

// mayBeBelow reports whether a row may stand directly below another one of the same number of columns.
func (r rule) mayBeBelow(above, row string) bool {
	for i := range len(row) {
		if !r.below[colour(above[i])][colour(row[i])] {
			return false
		}
	}
	return true
}

func (r rule) keeps(strip []string) bool {
	for i, row := range strip {
		if !r.isRow(row) || i > 0 && !r.mayBeBelow(strip[i-1], row) {
			return false
		}
	}
	return true
}

// Keeps reports whether a strip keeps the rule.
func Keeps(r api.Rule, strip []string) (bool, api.Errno) {
	a, ok := readStrip(r, strip)
	if !ok {
		return false, api.ErrArg
	}
	return a.keeps(strip), api.OK
}

func copied(lists [][]int) [][]int {
	copies := make([][]int, len(lists))
	for i, list := range lists {
		copies[i] = slices.Clone(list)
	}
	return copies
}

// Turn returns the rule with Beside and Below exchanged.
func Turn(r api.Rule) (api.Rule, api.Errno) {
	if _, ok := readRule(r); !ok {
		return api.Rule{}, api.ErrArg
	}
	return api.Rule{Q: r.Q, Beside: copied(r.Below), Below: copied(r.Beside)}, api.OK
}
