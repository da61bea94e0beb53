// Package fraction computes with fractions for the layers, so far as the products of their numbers are in the range of int.
package fraction

import (
	"cmp"

	"numnah/api"
)

// CommonDivisor is the greatest common divisor of two numbers, and not negative; that of 0 and a number is the number.
func CommonDivisor(a, b int) int {
	for b != 0 {
		a, b = b, a%b
	}
	return max(a, -a)
}

// Lowest is a fraction in lowest terms; den is at least 1.
func Lowest(num, den int) api.Frac {
	divisor := CommonDivisor(num, den)
	return api.Frac{Num: num / divisor, Den: den / divisor}
}

// IsValid reports whether a fraction, with any numbers, is in lowest terms with a Den of at least 1.
func IsValid(f api.Frac) bool {
	return f.Den >= 1 && CommonDivisor(f.Num, f.Den) == 1
}

// Whole is a whole number as a fraction.
func Whole(number int) api.Frac {
	return api.Frac{Num: number, Den: 1}
}

// Sum is that of two fractions, in lowest terms.
func Sum(f, g api.Frac) api.Frac {
	return Lowest(f.Num*g.Den+g.Num*f.Den, f.Den*g.Den)
}

// Difference is the first one of two fractions minus the second one, in lowest terms.
func Difference(f, g api.Frac) api.Frac {
	return Sum(f, api.Frac{Num: -g.Num, Den: g.Den})
}

// Compare returns -1 if the first one of two fractions is less than the second one, 0 if they are equal, and 1 otherwise.
func Compare(f, g api.Frac) int {
	return cmp.Compare(f.Num*g.Den, g.Num*f.Den)
}
