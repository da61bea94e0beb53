package card_test

import (
	"math"
	"slices"
	"strings"
	"testing"

	"numnah/api"
	"numnah/card"
)

func checkPrimes(t *testing.T, function string) {
	t.Helper()
	if l, e := card.Primes(function); e != api.OK || !slices.Equal(l, primesOf(function)) {
		t.Errorf("Primes(%s) = %v, %d, want %v", function, l, e, primesOf(function))
	}
	if l, e := card.Essential(function); e != api.OK || !slices.Equal(l, essentialOf(function)) {
		t.Errorf("Essential(%s) = %v, %d, want %v", function, l, e, essentialOf(function))
	}
}

// P1.1
func TestPrimesOfAllSmallFunctions(t *testing.T) {
	for _, f := range smallFunctions("01-") {
		checkPrimes(t, f)
	}
}

// P1.1
func TestPrimesOfFourAndFiveVariables(t *testing.T) {
	for _, f := range slices.Concat(someFunctions("01-", 4, 150), someFunctions("01", 4, 50), someFunctions("01-", 5, 40), someFunctions("01", 5, 20)) {
		checkPrimes(t, f)
	}
}

// P1.1
func TestPrimesByHand(t *testing.T) {
	for _, x := range []struct {
		function          string
		primes, essential []string
	}{
		{"0110", []string{"01", "10"}, []string{"01", "10"}},
		{"0111", []string{"-1", "1-"}, []string{"-1", "1-"}},
		{"1-01", []string{"-0", "1-"}, []string{"-0", "1-"}},
		{"01", []string{"1"}, []string{"1"}},
		{"10", []string{"0"}, []string{"0"}},
		{"1-", []string{"-"}, []string{"-"}},
		{"00", nil, nil},
		{"0-", nil, nil},
		{"--", nil, nil},
		{"11", []string{"-"}, []string{"-"}},
		{"----", nil, nil},
		// A cube of points that are free only is no implicant.
		{"1-0-", []string{"-0"}, []string{"-0"}},
		{"10-0", []string{"0-"}, []string{"0-"}},
		// The ring of six primes, each of whose points is in two of them.
		{"01111110", []string{"-01", "-10", "0-1", "01-", "1-0", "10-"}, nil},
		{strings.Repeat("1", 32), []string{"-----"}, []string{"-----"}},
		{strings.Repeat("0", 32), nil, nil},
		{strings.Repeat("-", 32), nil, nil},
		{strings.Repeat("-", 31) + "1", []string{"-----"}, []string{"-----"}},
		{strings.Repeat("0", 31) + "1", []string{"11111"}, []string{"11111"}},
		{strings.Repeat("0", 30) + "10", []string{"01111"}, []string{"01111"}},
	} {
		if l, e := card.Primes(x.function); e != api.OK || !slices.Equal(l, x.primes) {
			t.Errorf("Primes(%s) = %v, %d, want %v", x.function, l, e, x.primes)
		}
		if l, e := card.Essential(x.function); e != api.OK || !slices.Equal(l, x.essential) {
			t.Errorf("Essential(%s) = %v, %d, want %v", x.function, l, e, x.essential)
		}
	}
	if l, e := card.Primes(parity(5)); e != api.OK || len(l) != 16 || !slices.IsSorted(l) {
		t.Errorf("Primes of the parity = %v, %d", l, e)
	}
}

// P1.1
func TestPoints(t *testing.T) {
	for n := 1; n <= api.MaxVars; n++ {
		for _, c := range words("-01", n) {
			if l, e := card.Points(c); e != api.OK || !slices.Equal(l, pointsOf(c)) {
				t.Errorf("Points(%s) = %v, %d, want %v", c, l, e, pointsOf(c))
			}
		}
	}
	for _, c := range []string{"", "------", "000000", "2", "01x", "x1", " ", "1 ", "\x00", "\xff1", "é", "1\n", strings.Repeat("1", 1000)} {
		if l, e := card.Points(c); e != api.ErrArg || len(l) != 0 {
			t.Errorf("Points(%q) = %v, %d", c, l, e)
		}
	}
}

// notFunctions are strings that are no functions.
func notFunctions() []string {
	list := []string{"", "2", "0 ", " 0", "01x1", "011\x00", "01\n1", "0é1", "é", "\xff\xff", "/0", ":1", "0110110/", "0.", "0,"}
	for length := range 70 {
		if length == 2 || length == 4 || length == 8 || length == 16 || length == 32 {
			list = append(list, strings.Repeat("0", length-1)+"2", "x"+strings.Repeat("1", length-1))
			continue
		}
		list = append(list, strings.Repeat("0", length), strings.Repeat("1", length), strings.Repeat("-", length))
	}
	return append(list, strings.Repeat("0", 128), strings.Repeat("1", 1<<16))
}

// Errors of the chapter: each function first returns ErrArg if its string is no function, and then nothing else.
func TestNoFunction(t *testing.T) {
	for _, f := range notFunctions() {
		checkRefused(t, f)
	}
}

// The arguments beside the function are good, so that nothing but the function is wrong.
func checkRefused(t *testing.T, f string) {
	t.Helper()
	if l, e := card.Primes(f); e != api.ErrArg || len(l) != 0 {
		t.Errorf("Primes(%q) = %v, %d", f, l, e)
	}
	if l, e := card.Essential(f); e != api.ErrArg || len(l) != 0 {
		t.Errorf("Essential(%q) = %v, %d", f, l, e)
	}
	if l, e := card.Cover(f); e != api.ErrArg || len(l) != 0 {
		t.Errorf("Cover(%q) = %v, %d", f, l, e)
	}
	if l, e := card.Apart(f); e != api.ErrArg || len(l) != 0 {
		t.Errorf("Apart(%q) = %v, %d", f, l, e)
	}
	for n := range 7 {
		cubes := []string{strings.Repeat("-", n)}
		if e := card.Check(f, cubes); e != api.ErrArg {
			t.Errorf("Check(%q, %q) = %d", f, cubes, e)
		}
		if is, e := card.Irredundant(f, cubes); is || e != api.ErrArg {
			t.Errorf("Irredundant(%q, %q) = %v, %d", f, cubes, is, e)
		}
		order := []int{0, 1, 2, 3, 4, 5}[:n]
		if s, e := card.Turn(f, order, nil); s != "" || e != api.ErrArg {
			t.Errorf("Turn(%q, %v) = %q, %d", f, order, s, e)
		}
	}
	if e := card.Check(f, nil); e != api.ErrArg {
		t.Errorf("Check(%q, nil) = %d", f, e)
	}
	if is, e := card.Irredundant(f, nil); is || e != api.ErrArg {
		t.Errorf("Irredundant(%q, nil) = %v, %d", f, is, e)
	}
	checkNotTotal(t, f)
}

func checkNotTotal(t *testing.T, f string) {
	t.Helper()
	if s, e := card.Sum(f); s != "" || e != api.ErrArg {
		t.Errorf("Sum(%q) = %q, %d", f, s, e)
	}
	if m, e := card.Measures(f); m != (api.Measures{}) || e != api.ErrArg {
		t.Errorf("Measures(%q) = %v, %d", f, m, e)
	}
	if w, l, e := card.Weights(f); len(w) != 0 || len(l) != 0 || e != api.ErrArg {
		t.Errorf("Weights(%q) = %v, %v, %d", f, w, l, e)
	}
	for n := range 7 {
		if e := card.Realize(f, make([]int, n+1)); e != api.ErrArg {
			t.Errorf("Realize(%q) with %d weights = %d", f, n+1, e)
		}
	}
	for _, l := range [][][]int{nil, {{1, 2}, {0, 3}}, {{1}}, {{}, {}}, {{-1, math.MaxInt}, {math.MinInt, 99}}} {
		if e := card.Balance(f, l); e != api.ErrArg {
			t.Errorf("Balance(%q, %v) = %d", f, l, e)
		}
	}
	if p, i, e := card.Monotone(f); p != 0 || i != 0 || e != api.ErrArg {
		t.Errorf("Monotone(%q) = %d, %d, %d", f, p, i, e)
	}
}

// Errors of the chapter: some functions take total functions only, the others take all.
func TestNotTotal(t *testing.T) {
	for _, f := range slices.Concat(smallFunctions("01-"), someFunctions("01-", 4, 20), someFunctions("01-", 5, 20)) {
		if !strings.Contains(f, "-") {
			continue
		}
		checkNotTotal(t, f)
		order := []int{0, 1, 2, 3, 4}[:varsOf(f)]
		if s, e := card.Turn(f, order, nil); s != f || e != api.OK {
			t.Errorf("Turn(%s, %v, nil) = %s, %d", f, order, s, e)
		}
	}
}
