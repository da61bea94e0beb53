package strip_test

import (
	"math"
	"math/rand"
	"reflect"
	"slices"
	"strings"
	"testing"

	"numnah/api"
	"numnah/strip"
)

// call is a function with its other arguments.
type call struct {
	name string
	run  func(r api.Rule) ([]any, api.Errno)
}

func result[T any](x T, e api.Errno) ([]any, api.Errno) {
	return []any{x}, e
}

// widthCalls returns a call of each function that takes a number of columns and no number of rows.
func widthCalls(m int) []call {
	return []call{
		{"Rows", func(r api.Rule) ([]any, api.Errno) { return result(strip.Rows(r, m)) }},
		{"Steps", func(r api.Rule) ([]any, api.Errno) { return result(strip.Steps(r, m)) }},
		{"Longest", func(r api.Rule) ([]any, api.Errno) { return result(strip.Longest(r, m)) }},
		{"Ever", func(r api.Rule) ([]any, api.Errno) { return result(strip.Ever(r, m)) }},
	}
}

// sizeCalls returns a call of each function that takes numbers of columns and rows.
func sizeCalls(m, n, k int) []call {
	return []call{
		{"Count", func(r api.Rule) ([]any, api.Errno) { return result(strip.Count(r, m, n)) }},
		{"Rings", func(r api.Rule) ([]any, api.Errno) { return result(strip.Rings(r, m, n)) }},
		{"Item", func(r api.Rule) ([]any, api.Errno) { return result(strip.Item(r, m, n, k)) }},
	}
}

// stripCalls returns a call of each function that takes a strip.
func stripCalls(s []string, n int) []call {
	return []call{
		{"Index", func(r api.Rule) ([]any, api.Errno) { return result(strip.Index(r, s)) }},
		{"Keeps", func(r api.Rule) ([]any, api.Errno) { return result(strip.Keeps(r, s)) }},
		{"Extend", func(r api.Rule) ([]any, api.Errno) { return result(strip.Extend(r, s, n)) }},
	}
}

func otherCalls(weights [][][]int) []call {
	return []call{
		{"Best", func(r api.Rule) ([]any, api.Errno) {
			s, most, e := strip.Best(r, weights)
			return []any{s, most}, e
		}},
		{"Turn", func(r api.Rule) ([]any, api.Errno) { return result(strip.Turn(r)) }},
	}
}

// calls returns a call of each function.
func calls(m, n, k int, s []string, weights [][][]int) []call {
	return slices.Concat(widthCalls(m), sizeCalls(m, n, k), stripCalls(s, n), otherCalls(weights))
}

// isZero reports whether each result is its zero value, or an empty list.
func isZero(results []any) bool {
	for _, r := range results {
		v := reflect.ValueOf(r)
		if v.Kind() == reflect.Slice && v.Len() > 0 || v.Kind() != reflect.Slice && !v.IsZero() {
			return false
		}
	}
	return true
}

// ErrArg comes first for every function if r is not a rule.
func TestWhatIsNoRule(t *testing.T) {
	ones := square(3, one)
	rules := []api.Rule{
		{}, {Q: 1}, {Q: 3}, {Q: 4, Beside: square(4, one), Below: square(4, one)}, {Q: 0, Beside: [][]int{}, Below: [][]int{}}, {Q: 0, Beside: ones, Below: ones}, {Q: -1, Beside: ones, Below: ones}, {Q: math.MinInt}, {Q: math.MaxInt, Beside: ones, Below: ones},
		{Q: 1000, Beside: square(1000, one), Below: square(1000, one)}, {Q: 2, Beside: ones, Below: ones}, {Q: 1, Beside: square(2, one), Below: square(2, one)}, {Q: 3, Beside: square(2, one), Below: square(2, one)},
	}
	for _, wrong := range [][][]int{
		nil, {}, {nil, nil, nil}, {{}, {}, {}}, make([][]int, 1000), square(2, one), square(4, one), {{1, 1, 1}, {1, 1, 1}}, {{1, 1, 1}, {1, 1, 1}, {1, 1, 1}, {1, 1, 1}},
		{{1, 1, 1}, {1, 1, 1}, nil}, {{1, 1, 1}, {1, 1, 1}, {1, 1}}, {{1, 1}, {1, 1, 1}, {1, 1, 1}}, {{1, 1, 1}, {1, 1, 1, 1}, {1, 1, 1}}, {{1}, {1}, {1}},
		{{1, 1, 1}, {1, 1, 1}, {1, 1, 2}}, {{-1, 1, 1}, {1, 1, 1}, {1, 1, 1}}, {{1, 1, 1}, {1, math.MaxInt, 1}, {1, 1, 1}}, {{1, 1, 1}, {1, 1, math.MinInt}, {1, 1, 1}}, {{1, 1, 1}, {256, 1, 1}, {1, 1, 1}},
	} {
		rules = append(rules, api.Rule{Q: 3, Beside: wrong, Below: ones}, api.Rule{Q: 3, Beside: ones, Below: wrong}, api.Rule{Q: 3, Beside: wrong, Below: wrong})
	}
	for _, r := range rules {
		for _, c := range slices.Concat(calls(1, 1, 0, []string{"0"}, sameCells(1, 1, 0, 0, 0)), calls(2, 0, 0, []string{"01", "10"}, sameCells(1, 1, 0)), calls(0, -1, -1, nil, nil), calls(5, 40, 0, []string{"9"}, sameCells(1, 1, 0, 0))) {
			if results, e := c.run(r); e != api.ErrArg || !isZero(results) {
				t.Errorf("%s(%v) = %v, %d", c.name, r, results, e)
			}
		}
	}
}

// Every function that takes numbers of columns and rows returns ErrArg if they are outside of the limits.
func TestNumbersOutsideOfTheLimits(t *testing.T) {
	for _, r := range []api.Rule{free(1), hardSquares(), proper(), free(3), falling()} {
		for _, m := range []int{math.MinInt, -5, -1, 0, 6, 7, 1 << 32, math.MaxInt} {
			for _, c := range slices.Concat(widthCalls(m), sizeCalls(m, 0, 0), sizeCalls(m, 1, 0), sizeCalls(m, 40, -1)) {
				if results, e := c.run(r); e != api.ErrArg || !isZero(results) {
					t.Errorf("%s(%v) with %d columns = %v, %d", c.name, r, m, results, e)
				}
			}
		}
		for _, n := range []int{math.MinInt, -1, 41, 1000, 1 << 32, math.MaxInt} {
			for _, c := range slices.Concat(sizeCalls(1, n, 0), sizeCalls(5, n, -1)) {
				if results, e := c.run(r); e != api.ErrArg || !isZero(results) {
					t.Errorf("%s(%v) with %d rows = %v, %d", c.name, r, n, results, e)
				}
			}
		}
	}
}

// Every function that takes a strip returns ErrArg if it is none.
func TestWhatIsNoStrip(t *testing.T) {
	for _, r := range []api.Rule{free(2), hardSquares(), falling(), {Q: 2, Beside: square(2, zero), Below: square(2, zero)}} {
		for _, s := range [][]string{
			nil, {}, {""}, {"", ""}, {"0", ""}, {"", "0"}, {"0", "00"}, {"00", "0"}, {"000", "000", "00"}, make([]string, 40), make([]string, 1000),
			slices.Repeat([]string{"0"}, 41), slices.Repeat([]string{"00000"}, 1000), {"000000"}, slices.Repeat([]string{"000000"}, 40), {strings.Repeat("0", 100000)},
			{"2"}, {"0", "2"}, {"3"}, {"9"}, {"/"}, {"a"}, {" "}, {"-1"}, {"+0"}, {"\x00"}, {"\x01"}, {"\xff"}, {"é"}, {"0é"}, {"٠"}, {"00", "01", "0 "}, {"0\n"}, {"0000/"}, {"0000:"},
		} {
			for _, c := range slices.Concat(stripCalls(s, 1), stripCalls(s, 40), stripCalls(s, -1)) {
				if results, e := c.run(r); e != api.ErrArg || !isZero(results) {
					t.Errorf("%s(%v, %.20q) = %v, %d", c.name, r, s, results, e)
				}
			}
		}
	}
	for _, c := range slices.Concat(stripCalls([]string{"1"}, 1), stripCalls([]string{"0", "1"}, 2)) {
		if results, e := c.run(free(1)); e != api.ErrArg || !isZero(results) {
			t.Errorf("%s of one colour = %v, %d", c.name, results, e)
		}
	}
	for _, c := range stripCalls([]string{"3"}, 1) {
		if results, e := c.run(free(3)); e != api.ErrArg || !isZero(results) {
			t.Errorf("%s of three colours = %v, %d", c.name, results, e)
		}
	}
}

// P1: all functions accept all numbers; rule 4: with an error, all results are their zero values.
func TestAllNumbers(t *testing.T) {
	numbers := []int{math.MinInt, -1 << 32, -1001, -1000, -1, 0, 1, 2, 3, 5, 6, 7, 12, 39, 40, 41, 1000, 1001, 1 << 32, 1<<60 - 1, 1 << 60, math.MaxInt}
	for i, r := range slices.Concat([]api.Rule{free(1), free(2), free(3), proper(), falling(), {}}, someRules(6)) {
		for _, m := range numbers {
			for _, n := range numbers {
				k := numbers[(i*5+m&7+n&31)%len(numbers)]
				for _, c := range calls(m, n, k, []string{"01", "10"}, [][][]int{{{m, n, k}}}) {
					if results, e := c.run(r); e != api.OK && (!isZero(results) || e != api.ErrArg && e != api.ErrFull && e != api.ErrNone) {
						t.Errorf("%s(%v) with %d, %d, %d = %v, %d", c.name, r, m, n, k, results, e)
					}
				}
			}
		}
	}
}

// spoil overwrites all lists of a result.
func spoil(x any) {
	switch l := x.(type) {
	case []string:
		for i := range l {
			l[i] = "spoilt"
		}
	case [][]int:
		for _, list := range l {
			for i := range list[:cap(list)] {
				list[:cap(list)][i] = -99
			}
		}
	case api.Rule:
		spoil(l.Beside)
		spoil(l.Below)
	}
}

// copyOf returns a rule that shares no memory with the given one.
func copyOf(r api.Rule) api.Rule {
	copied := api.Rule{Q: r.Q}
	for a := range r.Q {
		copied.Beside = append(copied.Beside, slices.Clone(r.Beside[a]))
		copied.Below = append(copied.Below, slices.Clone(r.Below[a]))
	}
	return copied
}

// P2: the result depends on the arguments only. Rule 5: no argument is changed, and results are new memory.
func TestResultsAreNew(t *testing.T) {
	random := rand.New(rand.NewSource(3))
	for _, r := range slices.Concat([]api.Rule{hardSquares(), proper(), falling(), free(3)}, smallRules(), someRules(60)) {
		s, weights := make([]string, 3, 10), weightsOf(random, r.Q, 2, 4, 3)
		for i := range s {
			s[i] = words(2, r.Q)[random.Intn(r.Q*r.Q)]
		}
		keptRule, keptStrip, keptWeights := copyOf(r), slices.Clone(s), slices.Clone(weights)
		for i := range keptWeights {
			keptWeights[i] = slices.Clone(weights[i])
			for j := range keptWeights[i] {
				keptWeights[i][j] = slices.Clone(weights[i][j])
			}
		}
		for _, c := range slices.Concat(calls(2, 4, 1, s, weights), stripCalls(s, 3), calls(3, 2, 0, s, weights)) {
			first, e := c.run(r)
			second, _ := c.run(r)
			for _, x := range second {
				spoil(x)
			}
			third, o := c.run(r)
			if e != o || !reflect.DeepEqual(first, third) {
				t.Errorf("%s(%v) = %v, %d, and then %v, %d", c.name, r, first, e, third, o)
			}
			if !reflect.DeepEqual(r, keptRule) || !slices.Equal(s, keptStrip) || !reflect.DeepEqual(weights, keptWeights) || s[:4][3] != "" {
				t.Fatalf("%s changes its arguments: %v, %q, %v", c.name, r, s, weights)
			}
		}
	}
}

// The order of the elements of a map is not the same each time.
func TestResultsAreAlwaysTheSame(t *testing.T) {
	random := rand.New(rand.NewSource(4))
	for _, r := range slices.Concat([]api.Rule{hardSquares(), proper(), twoParts()}, someRules(20)) {
		weights := weightsOf(random, r.Q, 3, 5, 1)
		for _, c := range calls(3, 5, 7, []string{"010", "101"}, weights) {
			first, e := c.run(r)
			for range 10 {
				if again, o := c.run(r); e != o || !reflect.DeepEqual(first, again) {
					t.Errorf("%s(%v) = %v, %d, and then %v, %d", c.name, r, first, e, again, o)
				}
			}
		}
	}
}
