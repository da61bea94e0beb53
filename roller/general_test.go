package roller_test

import (
	"math"
	"reflect"
	"slices"
	"testing"

	"numnah/api"
	"numnah/roller"
)

// call is a function with its other arguments.
type call struct {
	name string
	run  func(m [][]int) ([]any, api.Errno)
}

// calls returns a call of each function.
func calls(i, j, k int, x []int) []call {
	return []call{
		{"Classes", func(m [][]int) ([]any, api.Errno) { return list(roller.Classes(m)) }},
		{"Periods", func(m [][]int) ([]any, api.Errno) { return list(roller.Periods(m)) }},
		{"Final", func(m [][]int) ([]any, api.Errno) { return list(roller.Final(m)) }},
		{"Exponent", func(m [][]int) ([]any, api.Errno) {
			l, e := roller.Exponent(m)
			return []any{l}, e
		}},
		{"Power", func(m [][]int) ([]any, api.Errno) { return lists(roller.Power(m, k)) }},
		{"Walk", func(m [][]int) ([]any, api.Errno) { return list(roller.Walk(m, i, j, k)) }},
		{"Cycle", func(m [][]int) ([]any, api.Errno) { return list(roller.Cycle(m, i)) }},
		{"Bounds", func(m [][]int) ([]any, api.Errno) {
			a, b, e := roller.Bounds(m, x)
			return []any{a, b}, e
		}},
		{"Next", func(m [][]int) ([]any, api.Errno) { return list(roller.Next(m, x)) }},
		{"Polynomial", func(m [][]int) ([]any, api.Errno) { return list(roller.Polynomial(m)) }},
		{"Growth", func(m [][]int) ([]any, api.Errno) {
			g, e := roller.Growth(m, i)
			return []any{g}, e
		}},
		{"Blocks", func(m [][]int) ([]any, api.Errno) { return lists(roller.Blocks(m)) }},
		{"Layers", func(m [][]int) ([]any, api.Errno) { return list(roller.Layers(m, i)) }},
	}
}

func list(l []int, e api.Errno) ([]any, api.Errno) {
	return []any{l}, e
}

func lists(l [][]int, e api.Errno) ([]any, api.Errno) {
	return []any{l}, e
}

// isZero reports whether each result is its zero value, or an empty list.
func isZero(results []any) bool {
	for _, r := range results {
		v := reflect.ValueOf(r)
		if v.Kind() == reflect.Slice && v.Len() > 0 || v.Kind() != reflect.Slice && !v.IsZero() {
			return false
		}
	}
	return true
}

// ErrArg comes first for every function if it is no matrix.
func TestWhatIsNoMatrix(t *testing.T) {
	for _, m := range [][][]int{
		nil, {}, {nil}, {{}}, {{1, 2}}, {{1}, {2}}, {{1, 0}, {1}}, {{1}, {1, 0}}, {{1, 0}, nil}, {nil, {1, 0}}, {{1, 0, 0}, {0, 1, 0}}, {{1, 0}, {0, 1}, {0, 0}}, {{1, 0}, {0, 1, 0}},
		{{-1}}, {{10}}, {{math.MinInt}}, {{math.MaxInt}}, {{0, 1}, {1, 10}}, {{0, -1}, {1, 0}}, {{1, 1}, {-9, 1}},
		square(9, func(i, j int) int { return 1 }), square(100, func(i, j int) int { return 0 }), make([][]int, 8), make([][]int, 1000),
		{make([]int, 1000)},
	} {
		for _, c := range slices.Concat(calls(0, 0, 1, []int{1, 1}), calls(0, 0, 0, []int{1}), calls(-1, 99, 101, nil)) {
			if r, e := c.run(m); e != api.ErrArg || !isZero(r) {
				t.Errorf("%s(%v) = %v, %d", c.name, m, r, e)
			}
		}
	}
}

// P2.2, P2.5
func TestWhatIsNoNumber(t *testing.T) {
	for _, m := range [][][]int{{{0}}, {{1}}, {{0, 1}, {0, 0}}, {{0, 1}, {1, 1}}, square(8, func(i, j int) int { return 9 })} {
		for _, i := range []int{-1, len(m), len(m) + 1, 8, 9, 64, math.MinInt, math.MaxInt} {
			if l, e := roller.Cycle(m, i); e != api.ErrArg || len(l) != 0 {
				t.Errorf("Cycle(%v, %d) = %v, %d", m, i, l, e)
			}
			if l, e := roller.Layers(m, i); e != api.ErrArg || len(l) != 0 {
				t.Errorf("Layers(%v, %d) = %v, %d", m, i, l, e)
			}
			if g, e := roller.Growth(m, i); e != api.ErrArg || g != 0 {
				t.Errorf("Growth(%v, %d) = %d, %d", m, i, g, e)
			}
		}
	}
}

// P1: all functions accept all numbers; rule 4: with an error, all results are their zero values.
func TestAllNumbers(t *testing.T) {
	numbers := []int{math.MinInt, -1 << 32, -2, -1, 0, 1, 2, 7, 8, 99, 100, 101, 1 << 32, math.MaxInt}
	for _, m := range slices.Concat(sparse(), someMatrices(5, 10)) {
		for a, i := range numbers {
			for b, j := range numbers {
				k := numbers[(a+2*b)%len(numbers)]
				for _, c := range calls(i, j, k, []int{i, j, k, i, j}[:min(5, len(m))]) {
					if r, e := c.run(m); e != api.OK && (!isZero(r) || e != api.ErrArg && e != api.ErrNone && e != api.ErrFull) {
						t.Errorf("%s(%v) with %d, %d, %d = %v, %d", c.name, m, i, j, k, r, e)
					}
				}
			}
		}
	}
}

// P2: the result depends on the arguments only. Rule 5: no argument is changed, and results are new memory.
func TestResultsAreNew(t *testing.T) {
	for _, m := range slices.Concat(sparse(), someMatrices(4, 20), someMatrices(8, 20)) {
		x := slices.Repeat([]int{3}, len(m))
		for _, c := range calls(0, len(m)-1, 5, x) {
			kept := cloned(m)
			first, e := c.run(m)
			second, _ := c.run(m)
			for _, r := range second {
				spoil(r)
			}
			third, f := c.run(m)
			if e != f || !reflect.DeepEqual(first, third) {
				t.Errorf("%s(%v) = %v, %d, and then %v, %d", c.name, m, first, e, third, f)
			}
			if !reflect.DeepEqual(m, kept) || !slices.Equal(x, slices.Repeat([]int{3}, len(m))) {
				t.Errorf("%s changes its arguments: %v, %v", c.name, m, x)
			}
		}
	}
}

// spoil overwrites all of a list; a result that is no list shares nothing.
func spoil(result any) {
	switch l := result.(type) {
	case []int:
		for i := range l {
			l[i] = -99
		}
	case [][]int:
		for _, x := range l {
			spoil(x)
		}
	}
}

// Rule 5: the lists of one result share no memory.
func TestListsAreApart(t *testing.T) {
	for _, m := range slices.Concat(sparse(), someMatrices(5, 20)) {
		blocks, _ := roller.Blocks(m)
		power, _ := roller.Power(m, 1)
		for _, l := range [][][]int{blocks, power} {
			kept := cloned(l)
			for i := range l {
				spoil(append(l[i], 0))
				spoil(l[i])
				if !slices.EqualFunc(l[i+1:], kept[i+1:], slices.Equal) {
					t.Errorf("%v: lists of %v share memory", m, kept)
				}
			}
		}
	}
}

// The order of the elements of a map is not the same each time.
func TestResultsAreAlwaysTheSame(t *testing.T) {
	for _, m := range slices.Concat(sparse(), someMatrices(8, 20)) {
		for _, c := range calls(0, len(m)-1, 6, slices.Repeat([]int{2}, len(m))) {
			first, e := c.run(m)
			for range 10 {
				if again, f := c.run(m); e != f || !reflect.DeepEqual(first, again) {
					t.Errorf("%s(%v) = %v, %d, and then %v, %d", c.name, m, first, e, again, f)
				}
			}
		}
	}
}
