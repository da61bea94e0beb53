package spread_test

import (
	"math"
	"reflect"
	"slices"
	"testing"

	"numnah/api"
	"numnah/spread"
)

// call is a function with its other arguments.
type call struct {
	name string
	run  func(scale int, points []int) ([]any, api.Errno)
}

// calls returns a call of each function of points on a line.
func calls(t, by int) []call {
	return []call{
		{"Line", func(scale int, points []int) ([]any, api.Errno) {
			f, place, below, e := spread.Line(scale, points)
			return []any{f, place, below}, e
		}},
		{"Deviation", func(scale int, points []int) ([]any, api.Errno) {
			f, e := spread.Deviation(scale, points, t)
			return []any{f}, e
		}},
		{"Interval", func(scale int, points []int) ([]any, api.Errno) {
			f, place, e := spread.Interval(scale, points)
			return []any{f, place}, e
		}},
		{"Gaps", func(scale int, points []int) ([]any, api.Errno) {
			l, e := spread.Gaps(scale, points)
			return []any{l}, e
		}},
		{"Move", func(scale int, points []int) ([]any, api.Errno) {
			l, e := spread.Move(scale, points, by)
			return []any{l}, e
		}},
	}
}

// otherCalls returns a call of each function that does not take points on a line.
func otherCalls(b, k, n int, f, g api.Frac) []call {
	return []call{
		{"Sheet", func(scale int, points []int) ([]any, api.Errno) {
			d, place, open, e := spread.Sheet(scale, [][2]int{{b, k}, {n, n}, {k, b}})
			return []any{d, place, open}, e
		}},
		{"Mirror", func(int, []int) ([]any, api.Errno) {
			m, e := spread.Mirror(b, k)
			return []any{m}, e
		}},
		{"Back", func(int, []int) ([]any, api.Errno) {
			l, e := spread.Back(b, f)
			return []any{l}, e
		}},
		{"Series", func(int, []int) ([]any, api.Errno) {
			l, e := spread.Series(b, k, n)
			return []any{l}, e
		}},
		{"Pairs", func(int, []int) ([]any, api.Errno) {
			l, e := spread.Pairs(b, k)
			return []any{l}, e
		}},
		{"Best", func(int, []int) ([]any, api.Errno) {
			d, l, e := spread.Best(n)
			return []any{d, l}, e
		}},
		{"Add", func(int, []int) ([]any, api.Errno) {
			s, e := spread.Add(f, g)
			return []any{s}, e
		}},
	}
}

// isZero reports whether each result is its zero value, or an empty list.
func isZero(results []any) bool {
	for _, r := range results {
		v := reflect.ValueOf(r)
		if v.Kind() == reflect.Slice && v.Len() > 0 || v.Kind() != reflect.Slice && !v.IsZero() {
			return false
		}
	}
	return true
}

// P3.1, P3.4
func TestWhatIsNoLine(t *testing.T) {
	for _, l := range []lineOf{
		{1, nil}, {1, []int{}}, {1000, nil}, {1000, []int{}}, {0, nil}, {-1, nil}, {1001, nil},
		{0, []int{0}}, {-1, []int{0}}, {-1, []int{-1}}, {-5, []int{-3}}, {1001, []int{0}}, {2000, []int{5}}, {math.MinInt, []int{0}}, {math.MaxInt, []int{0}},
		{1, []int{1}}, {5, []int{5}}, {5, []int{-1}}, {5, []int{0, 1, 5}}, {5, []int{-1, 1, 2}}, {5, []int{4, 6, 0}}, {1000, []int{1000}}, {1000, []int{0, math.MinInt}}, {1000, []int{math.MaxInt, 0}},
		{1, make([]int, 61)}, {1000, make([]int, 61)}, {1000, make([]int, 100000)},
	} {
		for _, c := range slices.Concat(calls(0, 0), calls(1, 7), calls(-1, math.MinInt)) {
			if r, e := c.run(l.scale, l.points); e != api.ErrArg || !isZero(r) {
				t.Errorf("%s(%d, %v) = %v, %d", c.name, l.scale, l.points, r, e)
			}
		}
	}
}

// P1: all functions accept all numbers; rule 4: with an error, all results are their zero values.
func TestAllNumbers(t *testing.T) {
	numbers := []int{math.MinInt, -1 << 32, -2, -1, 0, 1, 2, 3, 9, 10, 16, 17, 60, 61, 100, 101, 1000, 1001, 1000000, 1000001, 1 << 32, math.MaxInt}
	for x, a := range numbers {
		for y, b := range numbers {
			for z, c := range numbers {
				d := numbers[(x+2*y+3*z)%len(numbers)]
				f, g := api.Frac{Num: b, Den: c}, api.Frac{Num: c, Den: d}
				for _, call := range slices.Concat(calls(c, d), otherCalls(b, c, d, f, g)) {
					if r, e := call.run(a, []int{b, d, b}); e != api.OK && (!isZero(r) || e != api.ErrArg && e != api.ErrNone) || e == api.ErrNone && call.name != "Back" {
						t.Errorf("%s with %d, %d, %d, %d = %v, %d", call.name, a, b, c, d, r, e)
					}
				}
			}
		}
	}
}

// spoil overwrites all of a list; a result that is no list shares nothing.
func spoil(result any) {
	switch l := result.(type) {
	case []int:
		for i := range l {
			l[i] = -99
		}
	case [][2]int:
		for i := range l {
			l[i] = [2]int{-99, -99}
		}
	}
}

// P2: the result depends on the arguments only. Rule 5: no argument is changed, and results are new memory.
func TestResultsAreNew(t *testing.T) {
	f, g := api.Frac{Num: 3, Den: 8}, api.Frac{Num: 1, Den: 6}
	for _, l := range slices.Concat(someLines(100, 12), someLines(20, 1000), evenLines()) {
		for _, c := range slices.Concat(calls(l.scale/2, 0), calls(0, 5), otherCalls(2, 5, 8, f, g)) {
			kept := slices.Clone(l.points)
			first, e := c.run(l.scale, l.points)
			second, _ := c.run(l.scale, l.points)
			for _, r := range second {
				spoil(r)
			}
			third, o := c.run(l.scale, l.points)
			if e != o || !reflect.DeepEqual(first, third) {
				t.Errorf("%s(%d, %v) = %v, %d, and then %v, %d", c.name, l.scale, l.points, first, e, third, o)
			}
			if !slices.Equal(l.points, kept) {
				t.Errorf("%s changes its points: %v, %v", c.name, kept, l.points)
			}
		}
	}
}

// Rule 5
func TestSheetsAreKept(t *testing.T) {
	for _, a := range someSheets(50, 20) {
		kept := slices.Clone(a.points)
		spread.Sheet(a.scale, a.points)
		if !slices.Equal(a.points, kept) {
			t.Errorf("Sheet changes its points: %v, %v", kept, a.points)
		}
	}
}

// The order of the elements of a map is not the same each time.
func TestResultsAreAlwaysTheSame(t *testing.T) {
	for _, l := range slices.Concat(someLines(50, 30), evenLines()) {
		for _, c := range calls(0, 3) {
			first, e := c.run(l.scale, l.points)
			for range 10 {
				if again, o := c.run(l.scale, l.points); e != o || !reflect.DeepEqual(first, again) {
					t.Errorf("%s(%d, %v) = %v, %d, and then %v, %d", c.name, l.scale, l.points, first, e, again, o)
				}
			}
		}
	}
}
