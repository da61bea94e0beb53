package sample

import (
	"math/bits"

	"numnah/api"
	"numnah/fraction"
)

// isChance reports whether a fraction is one that can be asked for as a chance.
func isChance(f api.Frac) bool {
	return fraction.IsValid(f) && f.Num >= 0 && f.Num <= f.Den && f.Den <= api.MaxDen
}

// less compares two fractions that are not negative. The products of their numbers may be outside of the range of int.
func less(f, g api.Frac) bool {
	high, low := bits.Mul64(uint64(f.Num), uint64(g.Den))
	otherHigh, otherLow := bits.Mul64(uint64(g.Num), uint64(f.Den))
	return high < otherHigh || high == otherHigh && low < otherLow
}
