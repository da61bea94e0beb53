package roller_test

import (
	"math/big"
	"math/rand"
	"slices"
	"testing"

	"numnah/api"
	"numnah/roller"
)

// P2.6
func TestExponentsAreBounded(t *testing.T) {
	for _, m := range variety() {
		n := len(m)
		if k, e := roller.Exponent(m); e == api.OK && (k < 1 || k > (n-1)*(n-1)+1) {
			t.Errorf("Exponent(%v) = %d", m, k)
		}
	}
	for n := 2; n <= api.MaxRollers; n++ {
		if k, e := roller.Exponent(wielandt(n)); e != api.OK || k != (n-1)*(n-1)+1 {
			t.Errorf("Exponent(%v) = %d, %d", wielandt(n), k, e)
		}
	}
}

// P2.6
func TestBoundsDrawCloser(t *testing.T) {
	for _, m := range variety() {
		for _, x := range someVectors(len(m), 1, 4) {
			lower, upper, _ := roller.Bounds(m, x)
			for range 10 {
				x, _ = roller.Next(m, x)
				low, up, e := roller.Bounds(m, x)
				if e != api.OK {
					break
				}
				if value(low).Cmp(value(lower)) < 0 || value(up).Cmp(value(upper)) > 0 || value(low).Cmp(value(up)) > 0 {
					t.Errorf("%v: the bounds %v, %v become %v, %v", m, lower, upper, low, up)
				}
				lower, upper = low, up
			}
		}
	}
}

// P2.6
func TestMatricesSolveTheirPolynomials(t *testing.T) {
	for _, m := range slices.Concat(variety(), hadamard()) {
		polynomial, _ := roller.Polynomial(m)
		powers := powersOf(m, len(m))
		for i := range m {
			for j := range m {
				sum := big.NewInt(0)
				for k, c := range polynomial {
					sum.Add(sum, new(big.Int).Mul(powers[k][i][j], big.NewInt(int64(c))))
				}
				if sum.Sign() != 0 {
					t.Errorf("%v, %v: %v at %d, %d", m, polynomial, sum, i, j)
				}
			}
		}
	}
}

// P2.6
func TestPeriodsDivideCycles(t *testing.T) {
	for _, m := range variety() {
		periods, _ := roller.Periods(m)
		for i := range m {
			cycle, e := roller.Cycle(m, i)
			if (e == api.OK) != (periods[i] > 0) {
				t.Errorf("Cycle(%v, %d) = %v, %d, but the period is %d", m, i, cycle, e, periods[i])
			}
			if e == api.OK && (len(cycle)-1)%periods[i] != 0 {
				t.Errorf("Cycle(%v, %d) = %v: the period %d does not divide its length", m, i, cycle, periods[i])
			}
		}
	}
}

// P2.6
func TestRenaming(t *testing.T) {
	random := rand.New(rand.NewSource(1))
	for _, m := range variety() {
		names := random.Perm(len(m))
		n := renamed(m, names)
		before, _ := roller.Classes(m)
		after, _ := roller.Classes(n)
		for i := range m {
			for j := range m {
				if (before[i] == before[j]) != (after[names[i]] == after[names[j]]) {
					t.Errorf("Classes(%v) = %v, but Classes(%v) = %v", m, before, n, after)
				}
			}
		}
		p, _ := roller.Polynomial(m)
		if q, e := roller.Polynomial(n); e != api.OK || !slices.Equal(p, q) {
			t.Errorf("Polynomial(%v) = %v, but Polynomial(%v) = %v, %d", m, p, n, q, e)
		}
		k, e := roller.Exponent(m)
		if l, f := roller.Exponent(n); k != l || e != f {
			t.Errorf("Exponent(%v) = %d, %d, but Exponent(%v) = %d, %d", m, k, e, n, l, f)
		}
	}
}

// P2.6
func TestTransposing(t *testing.T) {
	for _, m := range variety() {
		n := transposed(m)
		for _, x := range []struct {
			name     string
			function func([][]int) ([]int, api.Errno)
		}{{"Classes", roller.Classes}, {"Periods", roller.Periods}, {"Polynomial", roller.Polynomial}} {
			l, e := x.function(m)
			if r, f := x.function(n); e != api.OK || f != api.OK || !slices.Equal(l, r) {
				t.Errorf("%s(%v) = %v, %d, but that of %v is %v, %d", x.name, m, l, e, n, r, f)
			}
		}
	}
}
