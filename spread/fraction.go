package spread

import (
	"numnah/api"
	"numnah/fraction"
)

// maxTerm is the greatest absolute value of a Num or a Den that is added: products of two of them, and sums of two such products, are in the range of int.
const maxTerm = 1000000000

// isTerm reports whether a fraction is valid and can be added.
func isTerm(f api.Frac) bool {
	return fraction.IsValid(f) && f.Num >= -maxTerm && f.Num <= maxTerm && f.Den <= maxTerm
}

// Add returns the sum of two fractions as a valid one.
func Add(f, g api.Frac) (api.Frac, api.Errno) {
	if !isTerm(f) || !isTerm(g) {
		return api.Frac{}, api.ErrArg
	}
	return fraction.Sum(f, g), api.OK
}
