package spread_test

import (
	"math"
	"math/big"
	"slices"
	"testing"

	"numnah/api"
	"numnah/spread"
)

// someIndexes returns numbers from 0 to MaxIndex: small ones, great ones, and those near to powers of a base.
func someIndexes(b int) []int {
	var list []int
	for k := range 2000 {
		list = append(list, k, api.MaxIndex-k)
	}
	for k := 0; k < api.MaxIndex; k += 499 {
		list = append(list, k)
	}
	for power := b; power < api.MaxIndex; power *= b {
		list = append(list, power-1, power, power+1)
	}
	return list
}

// P3.3
func TestMirrorsByHand(t *testing.T) {
	for _, x := range []struct {
		b, k int
		f    api.Frac
	}{
		{2, 0, api.Frac{Num: 0, Den: 1}}, {16, 0, api.Frac{Num: 0, Den: 1}}, {2, 1, api.Frac{Num: 1, Den: 2}}, {2, 2, api.Frac{Num: 1, Den: 4}}, {2, 3, api.Frac{Num: 3, Den: 4}}, {2, 6, api.Frac{Num: 3, Den: 8}},
		{10, 2, api.Frac{Num: 1, Den: 5}}, {10, 123, api.Frac{Num: 321, Den: 1000}}, {10, 1000000, api.Frac{Num: 1, Den: 10000000}}, {10, 999999, api.Frac{Num: 999999, Den: 1000000}}, {16, 255, api.Frac{Num: 255, Den: 256}},
		{3, 5, api.Frac{Num: 7, Den: 9}}, {2, 1000000, api.Frac{Num: 9263, Den: 1048576}},
	} {
		if f, e := spread.Mirror(x.b, x.k); f != x.f || e != api.OK {
			t.Errorf("Mirror(%d, %d) = %v, %d", x.b, x.k, f, e)
		}
		if k, e := spread.Back(x.b, x.f); k != x.k || e != api.OK {
			t.Errorf("Back(%d, %v) = %d, %d", x.b, x.f, k, e)
		}
	}
}

// P3.3
func TestMirrorsAndBack(t *testing.T) {
	for b := 2; b <= api.MaxBase; b++ {
		for _, k := range someIndexes(b) {
			f, e := spread.Mirror(b, k)
			if e != api.OK || !isThat(f, mirrorOf(b, k)) {
				t.Errorf("Mirror(%d, %d) = %v, %d", b, k, f, e)
			}
			if l, e := spread.Back(b, f); l != k || e != api.OK {
				t.Errorf("Back(%d, %v) = %d, %d, not %d", b, f, l, e, k)
			}
		}
	}
}

// P3.3
func TestMirrorErrors(t *testing.T) {
	for _, x := range [][2]int{
		{1, 0}, {0, 0}, {-1, 5}, {-2, 5}, {17, 5}, {1000, 5}, {math.MinInt, 5}, {math.MaxInt, 5},
		{2, -1}, {16, -1}, {2, 1000001}, {16, 1000001}, {10, math.MinInt}, {10, math.MaxInt}, {1, -1}, {17, 1000001},
	} {
		if f, e := spread.Mirror(x[0], x[1]); e != api.ErrArg || f != (api.Frac{}) {
			t.Errorf("Mirror(%d, %d) = %v, %d", x[0], x[1], f, e)
		}
	}
}

// P3.3: whatever fraction it is, it is turned back, or has no number from 0 to MaxIndex.
func TestBack(t *testing.T) {
	found, none, great := 0, 0, 0
	limit := big.NewInt(api.MaxIndex)
	for b := 2; b <= api.MaxBase; b++ {
		dens := []int{4096, 46656, 65536, 531441, 1 << 19, 1 << 20, 1 << 21, 1 << 23, 1 << 24, 1 << 25, 1 << 32, 1 << 61, 1 << 62, 15625, 15625 * 64, 10000000, 100000000, 1000000000000000000, 4052555153018976267, math.MaxInt}
		for den := 1; den <= 150; den++ {
			dens = append(dens, den)
		}
		for _, den := range dens {
			for _, num := range []int{0, 1, 2, 3, 5, 7, den / 3, den / 2, den/2 + 1, den - 5, den - 3, den - 2, den - 1} {
				f := api.Frac{Num: num, Den: den}
				if num < 0 || num >= den || divisor(num, den) != 1 {
					continue
				}
				number := numberOf(b, f)
				k, e := spread.Back(b, f)
				switch {
				case number == nil:
					none++
				case number.Cmp(limit) > 0:
					great++
				default:
					found++
					if e != api.OK || int64(k) != number.Int64() {
						t.Errorf("Back(%d, %v) = %d, %d, not %v", b, f, k, e, number)
					}
					continue
				}
				if e != api.ErrNone || k != 0 {
					t.Errorf("Back(%d, %v) = %d, %d", b, f, k, e)
				}
			}
		}
	}
	if found < 100 || none < 100 || great < 100 {
		t.Errorf("the fractions leave out a kind: %d with a number, %d without, %d with one that is too great", found, none, great)
	}
}

// P3.3
func TestBackBeyondTheIndexes(t *testing.T) {
	for b := 2; b <= api.MaxBase; b++ {
		beyond := []int{1 << 20, 1<<20 - 1, 1 << 21, 1<<21 + 1, 10000000, 16777215, 16777216, 99999999}
		for k := range 300 {
			beyond = append(beyond, api.MaxIndex+1+k)
		}
		for _, k := range beyond {
			f := mirrorOf(b, k)
			fraction := api.Frac{Num: int(f.Num().Int64()), Den: int(f.Denom().Int64())}
			if l, e := spread.Back(b, fraction); l != 0 || e != api.ErrNone {
				t.Errorf("Back(%d, %v) = %d, %d, but it is the mirror of %d", b, fraction, l, e, k)
			}
		}
	}
}

// P3.3: ErrArg comes before ErrNone.
func TestBackErrors(t *testing.T) {
	third, half := api.Frac{Num: 1, Den: 3}, api.Frac{Num: 1, Den: 2}
	for _, b := range []int{1, 0, -1, -2, 17, 1000, math.MinInt, math.MaxInt} {
		for _, f := range []api.Frac{third, half, {Num: 0, Den: 1}, {Num: 2, Den: 4}} {
			if k, e := spread.Back(b, f); k != 0 || e != api.ErrArg {
				t.Errorf("Back(%d, %v) = %d, %d", b, f, k, e)
			}
		}
	}
	for b := 2; b <= api.MaxBase; b++ {
		for _, f := range append(noFractions(),
			api.Frac{Num: 1, Den: 1}, api.Frac{Num: 4, Den: 3}, api.Frac{Num: 3, Den: 2}, api.Frac{Num: -1, Den: 2}, api.Frac{Num: -1, Den: 3}, api.Frac{Num: -1, Den: 1},
			api.Frac{Num: 5, Den: 1}, api.Frac{Num: math.MaxInt, Den: 1}, api.Frac{Num: math.MinInt, Den: 1}, api.Frac{Num: math.MinInt, Den: math.MaxInt}, api.Frac{Num: math.MaxInt, Den: math.MaxInt - 1},
		) {
			if k, e := spread.Back(b, f); k != 0 || e != api.ErrArg {
				t.Errorf("Back(%d, %v) = %d, %d", b, f, k, e)
			}
		}
	}
	for _, x := range []struct {
		b int
		f api.Frac
	}{{2, third}, {3, half}, {10, third}, {2, api.Frac{Num: 1, Den: 1 << 21}}, {2, api.Frac{Num: 1, Den: 1 << 62}}, {16, api.Frac{Num: 1, Den: math.MaxInt}}, {10, api.Frac{Num: math.MaxInt - 1, Den: math.MaxInt}}} {
		if k, e := spread.Back(x.b, x.f); k != 0 || e != api.ErrNone {
			t.Errorf("Back(%d, %v) = %d, %d", x.b, x.f, k, e)
		}
	}
}

// powerOf is b^digits, for exponents that are not negative.
func powerOf(b, digits int) *big.Int {
	return new(big.Int).Exp(big.NewInt(int64(b)), big.NewInt(int64(digits)), nil)
}

// P3.3
func TestSeriesByHand(t *testing.T) {
	for _, x := range []struct {
		b, digits, n int
		points       []int
	}{
		{2, 3, 8, []int{0, 4, 2, 6, 1, 5, 3, 7}}, {2, 3, 3, []int{0, 4, 2}}, {2, 1, 1, []int{0}}, {2, 1, 2, []int{0, 1}},
		{3, 2, 9, []int{0, 3, 6, 1, 4, 7, 2, 5, 8}}, {10, 3, 12, []int{0, 100, 200, 300, 400, 500, 600, 700, 800, 900, 10, 110}}, {16, 1, 3, []int{0, 1, 2}}, {2, 9, 5, []int{0, 256, 128, 384, 64}},
	} {
		if l, e := spread.Series(x.b, x.digits, x.n); e != api.OK || !slices.Equal(l, x.points) {
			t.Errorf("Series(%d, %d, %d) = %v, %d", x.b, x.digits, x.n, l, e)
		}
	}
	if l, e := spread.Pairs(2, 2); e != api.OK || !slices.Equal(l, [][2]int{{0, 0}, {1, 2}, {2, 1}, {3, 3}}) {
		t.Errorf("Pairs(2, 2) = %v, %d", l, e)
	}
}

// P3.3: all bases, digits and numbers, and those just outside of them.
func TestSeries(t *testing.T) {
	for b := -2; b <= api.MaxBase+2; b++ {
		for digits := -1; digits <= 11; digits++ {
			for n := -1; n <= api.MaxPoints+2; n++ {
				l, e := spread.Series(b, digits, n)
				if !isSeries(b, digits) || n < 1 || n > api.MaxPoints || powerOf(b, digits).Cmp(big.NewInt(int64(n))) < 0 {
					if e != api.ErrArg || len(l) != 0 {
						t.Errorf("Series(%d, %d, %d) = %v, %d", b, digits, n, l, e)
					}
				} else if e != api.OK || len(l) != n || !slices.Equal(l, mirrorsOf(b, digits, n)) {
					t.Errorf("Series(%d, %d, %d) = %v, %d", b, digits, n, l, e)
				}
			}
		}
	}
}

func isSeries(b, digits int) bool {
	return b >= 2 && b <= 16 && digits >= 1 && digits <= 9 && powerOf(b, digits).Cmp(big.NewInt(1000)) <= 0
}

// mirrorsOf returns the mirrors of 0 to n - 1, each times b^digits.
func mirrorsOf(b, digits, n int) []int {
	points := make([]int, n)
	for k := range points {
		times := new(big.Rat).SetInt(powerOf(b, digits))
		points[k] = int(times.Mul(times, mirrorOf(b, k)).Num().Int64())
	}
	return points
}

// P3.3: all bases and digits, and those just outside of them.
func TestPairs(t *testing.T) {
	for b := -2; b <= api.MaxBase+2; b++ {
		for digits := -1; digits <= 11; digits++ {
			l, e := spread.Pairs(b, digits)
			if !isSeries(b, digits) || powerOf(b, digits).Cmp(big.NewInt(api.MaxPoints)) > 0 {
				if e != api.ErrArg || len(l) != 0 {
					t.Errorf("Pairs(%d, %d) = %v, %d", b, digits, l, e)
				}
				continue
			}
			points := mirrorsOf(b, digits, int(powerOf(b, digits).Int64()))
			if e != api.OK || len(l) != len(points) {
				t.Errorf("Pairs(%d, %d) = %v, %d", b, digits, l, e)
				continue
			}
			for k, x := range points {
				if l[k] != [2]int{k, x} {
					t.Errorf("Pairs(%d, %d)[%d] = %v", b, digits, k, l[k])
				}
			}
		}
	}
}

// P3.3
func TestSeriesErrors(t *testing.T) {
	extremes := []int{math.MinInt, -1 << 32, -1, 0, 1 << 32, math.MaxInt}
	for _, x := range extremes {
		for _, l := range [][3]int{{x, 3, 5}, {2, x, 5}, {2, 3, x}, {x, x, x}, {x, 3, x}, {16, x, x}} {
			if s, e := spread.Series(l[0], l[1], l[2]); e != api.ErrArg || len(s) != 0 {
				t.Errorf("Series(%d, %d, %d) = %v, %d", l[0], l[1], l[2], s, e)
			}
		}
		for _, l := range [][2]int{{x, 2}, {2, x}, {x, x}} {
			if s, e := spread.Pairs(l[0], l[1]); e != api.ErrArg || len(s) != 0 {
				t.Errorf("Pairs(%d, %d) = %v, %d", l[0], l[1], s, e)
			}
		}
	}
}
