package sample

import (
	"math/bits"

	"numnah/api"
)

// commonDivisor is the greatest common divisor of a number that is not negative and one that is at least 1.
func commonDivisor(a, b int) int {
	for b != 0 {
		a, b = b, a%b
	}
	return a
}

// lowest is a fraction in lowest terms; num is not negative, and den at least 1.
func lowest(num, den int) api.Frac {
	divisor := commonDivisor(num, den)
	return api.Frac{Num: num / divisor, Den: den / divisor}
}

// isChance reports whether a fraction is one that can be asked for as a chance.
func isChance(f api.Frac) bool {
	if f.Num < 0 || f.Num > f.Den || f.Den < 1 || f.Den > api.MaxDen {
		return false
	}
	return f == lowest(f.Num, f.Den)
}

// less compares two fractions that are not negative. The products of their numbers may be outside of the range of int.
func less(f, g api.Frac) bool {
	high, low := bits.Mul64(uint64(f.Num), uint64(g.Den))
	otherHigh, otherLow := bits.Mul64(uint64(g.Num), uint64(f.Den))
	return high < otherHigh || high == otherHigh && low < otherLow
}
