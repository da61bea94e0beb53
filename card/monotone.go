package card

import "numnah/api"

// Monotone returns -1 and -1 if no variable that is turned from 0 to 1 changes a value from 1 to 0, and otherwise the smallest point, and for it the smallest variable, for which this happens.
func Monotone(function string) (int, int, api.Errno) {
	f, ok := readTotal(function)
	if !ok {
		return 0, 0, api.ErrArg
	}
	for _, p := range f.ones.list() {
		for i := range f.vars {
			if !f.ones.has(p | 1<<i) {
				return p, i, api.OK
			}
		}
	}
	return -1, -1, api.OK
}

// Turn returns the function whose value at a point p is that of the given one at the point at which the variable order[i] is the variable i of p, turned if i is in flips.
func Turn(function string, order []int, flips []int) (string, api.Errno) {
	f, ok := readTable(function)
	if !ok || len(order) != f.vars || !areDifferent(order, f.vars) || !areDifferent(flips, f.vars) {
		return "", api.ErrArg
	}
	turned := 0
	for _, i := range flips {
		turned |= 1 << i
	}
	text := make([]byte, f.size())
	for p := range text {
		text[p] = function[moved(p^turned, order)]
	}
	return string(text), api.OK
}

// areDifferent reports whether all numbers are variables, none of them twice.
func areDifferent(numbers []int, vars int) bool {
	var seen [api.MaxVars]bool
	for _, i := range numbers {
		if i < 0 || i >= vars || seen[i] {
			return false
		}
		seen[i] = true
	}
	return true
}

// moved is the point at which the variable order[i] is the variable i of the given one.
func moved(point int, order []int) int {
	to := 0
	for i, variable := range order {
		to |= point >> i & 1 << variable
	}
	return to
}
