package sample_test

import (
	"math"
	"math/rand"
	"reflect"
	"slices"
	"testing"

	"numnah/api"
	"numnah/sample"
)

// call is a function with its arguments.
type call struct {
	name string
	run  func() ([]any, api.Errno)
}

// singleCalls returns a call of each function that takes a single plan or finds one.
func singleCalls(lot, good, bad, n, c int, least, most api.Frac) []call {
	return []call{
		{"Ways", func() ([]any, api.Errno) {
			ways, e := sample.Ways(lot, bad)
			return []any{ways}, e
		}},
		{"Single", func() ([]any, api.Errno) {
			f, e := sample.Single(lot, bad, n, c)
			return []any{f}, e
		}},
		{"Curve", func() ([]any, api.Errno) {
			l, e := sample.Curve(lot, n, c)
			return []any{l}, e
		}},
		{"Left", func() ([]any, api.Errno) {
			f, at, e := sample.Left(lot, n, c)
			return []any{f, at}, e
		}},
		{"Plan", func() ([]any, api.Errno) {
			n, c, e := sample.Plan(lot, good, bad, least, most)
			return []any{n, c}, e
		}},
		{"Curtail", func() ([]any, api.Errno) {
			course, e := sample.Curtail(lot, n, c)
			return []any{course.Accept, course.Reject}, e
		}},
	}
}

// courseCalls returns a call of each function that takes a double plan or a course.
func courseCalls(lot, bad int, plan [5]int, c api.Course) []call {
	return []call{
		{"Double", func() ([]any, api.Errno) {
			f, g, e := sample.Double(lot, bad, plan)
			return []any{f, g}, e
		}},
		{"Course", func() ([]any, api.Errno) {
			f, g, e := sample.Course(lot, bad, c)
			return []any{f, g}, e
		}},
		{"Chances", func() ([]any, api.Errno) {
			l, m, e := sample.Chances(lot, bad, c)
			return []any{l, m}, e
		}},
		{"Fits", func() ([]any, api.Errno) {
			return nil, sample.Fits(lot, c)
		}},
		{"Merge", func() ([]any, api.Errno) {
			course, e := sample.Merge(lot, plan)
			return []any{course.Accept, course.Reject}, e
		}},
	}
}

// isZero reports whether each result is its zero value, or an empty list.
func isZero(results []any) bool {
	for _, r := range results {
		v := reflect.ValueOf(r)
		if v.Kind() == reflect.Slice && v.Len() > 0 || v.Kind() != reflect.Slice && !v.IsZero() {
			return false
		}
	}
	return true
}

// P1: all functions accept all numbers; rule 4: with an error, all results are their zero values.
func TestAllNumbers(t *testing.T) {
	numbers := []int{math.MinInt, -1 << 32, -36, -2, -1, 0, 1, 2, 3, 17, 35, 36, 37, 1000, 1001, 1 << 32, math.MaxInt - 1, math.MaxInt}
	random := rand.New(rand.NewSource(5))
	number := func() int { return numbers[random.Intn(len(numbers))] }
	for _, lot := range numbers {
		for _, bad := range numbers {
			for _, n := range numbers {
				for _, c := range numbers {
					f, g := api.Frac{Num: number(), Den: number()}, api.Frac{Num: number(), Den: number()}
					course := api.Course{Accept: []int{n, number()}, Reject: []int{c, number()}}
					for _, x := range slices.Concat(singleCalls(lot, number(), bad, n, c, f, g), courseCalls(lot, bad, [5]int{n, c, number(), number(), number()}, course)) {
						if r, e := x.run(); e != api.OK && (!isZero(r) || e != api.ErrArg && e != api.ErrNone) || e == api.ErrNone && x.name != "Plan" {
							t.Errorf("%s with %d, %d, %d, %d = %v, %d", x.name, lot, bad, n, c, r, e)
						}
					}
				}
			}
		}
	}
}

// spoil overwrites all of a list, with what lies behind it; a result that is no list shares nothing.
func spoil(result any) {
	switch l := result.(type) {
	case []int:
		for i := range l[:cap(l)] {
			l[:cap(l)][i] = -99
		}
	case []api.Frac:
		for i := range l[:cap(l)] {
			l[:cap(l)][i] = api.Frac{Num: -99, Den: -99}
		}
	}
}

// P2: the result depends on the arguments only. Rule 5: no argument is changed, and results are new memory, which they do not share with each other.
func TestResultsAreNew(t *testing.T) {
	random := rand.New(rand.NewSource(6))
	for range 300 {
		lot := 2 + random.Intn(api.MaxLot-1)
		bad := random.Intn(lot + 1)
		n := 1 + random.Intn(lot)
		c := someCourse(random, lot)
		kept := api.Course{Accept: slices.Clone(c.Accept), Reject: slices.Clone(c.Reject)}
		half := api.Frac{Num: 1, Den: 2}
		for _, x := range slices.Concat(singleCalls(lot, bad/2, bad, n, random.Intn(n), half, half), courseCalls(lot, bad, someDouble(random, lot), c)) {
			first, e := x.run()
			for i := range first {
				second, _ := x.run()
				spoil(second[i])
				for j := range first {
					if i != j && !reflect.DeepEqual(first[j], second[j]) {
						t.Errorf("%s: its results share memory", x.name)
					}
				}
			}
			if third, o := x.run(); e != o || !reflect.DeepEqual(first, third) {
				t.Errorf("%s of a lot of %d = %v, %d, and then %v, %d", x.name, lot, first, e, third, o)
			}
			if !reflect.DeepEqual(c, kept) {
				t.Fatalf("%s changes its course: %v, %v", x.name, kept, c)
			}
		}
	}
}
