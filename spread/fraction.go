package spread

import "numnah/api"

// maxTerm is the greatest absolute value of a Num or a Den that is added: products of two of them, and sums of two such products, are in the range of int.
const maxTerm = 1000000000

func absolute(a int) int {
	return max(a, -a)
}

// commonDivisor is the greatest common divisor of a number and one that is at least 1.
func commonDivisor(a, b int) int {
	for b != 0 {
		a, b = b, a%b
	}
	return absolute(a)
}

// lowest is a fraction in lowest terms; den is at least 1.
func lowest(num, den int) api.Frac {
	divisor := commonDivisor(num, den)
	return api.Frac{Num: num / divisor, Den: den / divisor}
}

func isValid(f api.Frac) bool {
	return f.Den >= 1 && commonDivisor(f.Num, f.Den) == 1
}

// isTerm reports whether a fraction is valid and can be added.
func isTerm(f api.Frac) bool {
	return isValid(f) && f.Num >= -maxTerm && f.Num <= maxTerm && f.Den <= maxTerm
}

func sum(f, g api.Frac) api.Frac {
	return lowest(f.Num*g.Den+g.Num*f.Den, f.Den*g.Den)
}

func negative(f api.Frac) api.Frac {
	return api.Frac{Num: -f.Num, Den: f.Den}
}

// less compares two fractions that can be added.
func less(f, g api.Frac) bool {
	return f.Num*g.Den < g.Num*f.Den
}

// Add returns the sum of two fractions as a valid one.
func Add(f, g api.Frac) (api.Frac, api.Errno) {
	if !isTerm(f) || !isTerm(g) {
		return api.Frac{}, api.ErrArg
	}
	return sum(f, g), api.OK
}
