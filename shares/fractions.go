package shares

import (
	"numnah/api"
	"numnah/fraction"
)

// maxNum is the greatest absolute value of the Num of a fraction that is added or compared.
const maxNum = 1000000

// areTerms reports whether fractions can be added and compared, and are not too many.
func areTerms(fractions ...api.Frac) bool {
	for _, f := range fractions {
		if !fraction.IsValid(f) || f.Num < -maxNum || f.Num > maxNum || f.Den > api.MaxShare {
			return false
		}
	}
	return len(fractions) <= api.MaxHeirs
}

// Sum returns the sum of fractions.
func Sum(l []api.Frac) (api.Frac, api.Errno) {
	if !areTerms(l...) {
		return api.Frac{}, api.ErrArg
	}
	total := fraction.Whole(0)
	for _, f := range l {
		total = fraction.Sum(total, f)
	}
	return total, api.OK
}

// Compare returns -1, 0 or 1 if the first fraction is less than the second one, equal to it, or greater.
func Compare(f, g api.Frac) (int, api.Errno) {
	if !areTerms(f, g) {
		return 0, api.ErrArg
	}
	return fraction.Compare(f, g), api.OK
}

// Sorted returns fractions in ascending order.
func Sorted(l []api.Frac) ([]api.Frac, api.Errno) {
	if !areTerms(l...) {
		return nil, api.ErrArg
	}
	return sorted(l, fraction.Compare), api.OK
}
