package fraction_test

import (
	"math"
	"math/big"
	"testing"

	"numnah/api"
	"numnah/fraction"
)

// numbers are around the ends of the range of int, and around 0.
func numbers() []int {
	list := []int{math.MinInt, math.MinInt + 1, math.MaxInt - 1, math.MaxInt, -1000000, 999999, 1 << 32}
	for i := -13; i <= 13; i++ {
		list = append(list, i)
	}
	return list
}

func rat(f api.Frac) *big.Rat {
	return big.NewRat(int64(f.Num), int64(f.Den))
}

// A number divides 0, so that the greatest common divisor of 0 and a number is the number.
func TestCommonDivisor(t *testing.T) {
	for _, a := range numbers() {
		for _, b := range numbers() {
			if a == math.MinInt && (b == 0 || b == math.MinInt) || a == 0 && b == math.MinInt {
				continue // its absolute value is no int
			}
			first, second := big.NewInt(int64(a)), big.NewInt(int64(b))
			want := new(big.Int).GCD(nil, nil, first.Abs(first), second.Abs(second))
			if d := fraction.CommonDivisor(a, b); want.Cmp(big.NewInt(int64(d))) != 0 {
				t.Errorf("CommonDivisor(%d, %d) = %d, not %v", a, b, d, want)
			}
		}
	}
}

// What is valid is so for all ints, as layer 2 says: a Den of at least 1 and no common divisor, 0 as 0/1.
func TestIsValid(t *testing.T) {
	for _, num := range numbers() {
		for _, den := range numbers() {
			want := false
			if den >= 1 {
				lowest := big.NewRat(int64(num), int64(den))
				want = lowest.Num().Cmp(big.NewInt(int64(num))) == 0 && lowest.Denom().Cmp(big.NewInt(int64(den))) == 0
			}
			if is := fraction.IsValid(api.Frac{Num: num, Den: den}); is != want {
				t.Errorf("IsValid(%d/%d) = %v", num, den, is)
			}
		}
	}
}

func TestFractions(t *testing.T) {
	var list []api.Frac
	for num := -12; num <= 12; num++ {
		if f := fraction.Whole(num); f != (api.Frac{Num: num, Den: 1}) {
			t.Errorf("Whole(%d) = %v", num, f)
		}
		for den := 1; den <= 12; den++ {
			f := fraction.Lowest(num, den)
			if !fraction.IsValid(f) || rat(f).Cmp(big.NewRat(int64(num), int64(den))) != 0 {
				t.Errorf("Lowest(%d, %d) = %v", num, den, f)
			}
			list = append(list, f)
		}
	}
	for _, f := range list {
		for _, g := range list {
			if c := fraction.Compare(f, g); c != rat(f).Cmp(rat(g)) {
				t.Errorf("Compare(%v, %v) = %d", f, g, c)
			}
			if s := fraction.Sum(f, g); !fraction.IsValid(s) || rat(s).Cmp(new(big.Rat).Add(rat(f), rat(g))) != 0 {
				t.Errorf("Sum(%v, %v) = %v", f, g, s)
			}
			if d := fraction.Difference(f, g); !fraction.IsValid(d) || rat(d).Cmp(new(big.Rat).Sub(rat(f), rat(g))) != 0 {
				t.Errorf("Difference(%v, %v) = %v", f, g, d)
			}
		}
	}
}
