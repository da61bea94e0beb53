package spread

import (
	"numnah/api"
	"numnah/fraction"
)

// maxDigits is the greatest number of digits of a series.
const maxDigits = 9

func isBase(b int) bool {
	return b >= 2 && b <= api.MaxBase
}

func mirror(b, k int) api.Frac {
	num, den := 0, 1
	for ; k > 0; k /= b {
		num = num*b + k%b
		den *= b
	}
	return fraction.Lowest(num, den)
}

// Mirror returns the mirror of k in base b.
func Mirror(b, k int) (api.Frac, api.Errno) {
	if !isBase(b) || k < 0 || k > api.MaxIndex {
		return api.Frac{}, api.ErrArg
	}
	return mirror(b, k), api.OK
}

// Back returns the number whose mirror in base b is f.
func Back(b int, f api.Frac) (int, api.Errno) {
	if !isBase(b) || !fraction.IsValid(f) || f.Num < 0 || f.Num >= f.Den {
		return 0, api.ErrArg
	}
	// The denominator of a mirror divides the first power of b that is greater than the number; a greater one might also leave the range of int below.
	if f.Den > b*api.MaxIndex {
		return 0, api.ErrNone
	}
	k, power := 0, 1
	for rest := f.Num; rest > 0; power *= b {
		if power > api.MaxIndex {
			return 0, api.ErrNone
		}
		rest *= b
		k += rest / f.Den * power
		rest %= f.Den
	}
	if k > api.MaxIndex {
		return 0, api.ErrNone
	}
	return k, api.OK
}

// seriesScale is b^digits, and reports whether there are series with this base and these digits.
func seriesScale(b, digits int) (int, bool) {
	if !isBase(b) || digits < 1 || digits > maxDigits {
		return 0, false
	}
	scale := 1
	for range digits {
		scale *= b
	}
	return scale, scale <= api.MaxScale
}

// mirrors are those of 0 to n - 1 times the scale of a series of at least n points.
func mirrors(b, scale, n int) []int {
	points := make([]int, n)
	for k := range points {
		f := mirror(b, k)
		points[k] = scale / f.Den * f.Num
	}
	return points
}

// Series returns the mirrors of 0 to n - 1, each times b^digits.
func Series(b, digits, n int) ([]int, api.Errno) {
	scale, ok := seriesScale(b, digits)
	if !ok || n < 1 || n > api.MaxPoints || n > scale {
		return nil, api.ErrArg
	}
	return mirrors(b, scale, n), api.OK
}

// Pairs returns, for k from 0 to b^digits - 1, the pairs of k and of the mirror of k times b^digits.
func Pairs(b, digits int) ([][2]int, api.Errno) {
	scale, ok := seriesScale(b, digits)
	if !ok || scale > api.MaxPoints {
		return nil, api.ErrArg
	}
	pairs := make([][2]int, scale)
	for k, x := range mirrors(b, scale, scale) {
		pairs[k] = [2]int{k, x}
	}
	return pairs, api.OK
}
