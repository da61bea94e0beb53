package card_test

import (
	"reflect"
	"slices"
	"testing"

	"numnah/card"
)

// lists returns all lists that the functions return for a function.
func lists(function string) []any {
	primes, _ := card.Primes(function)
	essential, _ := card.Essential(function)
	cover, _ := card.Cover(function)
	apart, _ := card.Apart(function)
	weights, balance, _ := card.Weights(function)
	points, _ := card.Points("1-")
	return []any{primes, essential, cover, apart, weights, balance, points}
}

// P2: the result depends on the arguments only.
func TestResultsAreAlwaysTheSame(t *testing.T) {
	for _, f := range slices.Concat(words("01-", 4), someFunctions("01-", 4, 30), someFunctions("01-", 5, 30), someFunctions("01", 5, 30)) {
		first := lists(f)
		for range 5 {
			if again := lists(f); !reflect.DeepEqual(first, again) {
				t.Errorf("%s: %v, and then %v", f, first, again)
			}
		}
	}
}

// Rule 5: results are new memory.
func TestResultsAreNew(t *testing.T) {
	for _, f := range []string{"0110", "0111", "1-01", parity(5), "01101000"} {
		first, second, third := lists(f), lists(f), lists(f)
		for _, l := range second {
			spoil(l)
		}
		if !reflect.DeepEqual(first, third) || !reflect.DeepEqual(first, lists(f)) {
			t.Errorf("%s: results change with each other", f)
		}
	}
	_, balance, _ := card.Weights("0110")
	second := slices.Clone(balance[1])
	spoil(append(balance[0], 99))
	spoil(balance[0])
	if !slices.Equal(balance[1], second) {
		t.Errorf("the lists of a balance share memory")
	}
}

// spoil overwrites all of a list.
func spoil(list any) {
	switch l := list.(type) {
	case []string:
		for i := range l {
			l[i] = "spoilt"
		}
	case []int:
		for i := range l {
			l[i] = 99
		}
	case [][]int:
		for _, x := range l {
			spoil(x)
		}
	}
}

// Rule 5: no argument is changed.
func TestArgumentsAreKept(t *testing.T) {
	cubes := []string{"11", "1-", "-1"}
	weights := []int{3, -1, 2}
	points := [][]int{{2, 1}, {3, 0}}
	order, flips := []int{1, 0}, []int{1, 0}
	card.Check("0111", cubes)
	card.Irredundant("0111", cubes)
	card.Realize("0111", weights)
	card.Balance("0110", points)
	card.Turn("0111", order, flips)
	if !slices.Equal(cubes, []string{"11", "1-", "-1"}) {
		t.Errorf("cubes: %v", cubes)
	}
	if !slices.Equal(weights, []int{3, -1, 2}) {
		t.Errorf("weights: %v", weights)
	}
	if !slices.Equal(points[0], []int{2, 1}) || !slices.Equal(points[1], []int{3, 0}) {
		t.Errorf("points: %v", points)
	}
	if !slices.Equal(order, []int{1, 0}) || !slices.Equal(flips, []int{1, 0}) {
		t.Errorf("order and flips: %v, %v", order, flips)
	}
}
