package rules_test

import (
	"math"
	"math/rand"
	"reflect"
	"slices"
	"strings"
	"testing"

	"numnah/api"
	"numnah/rules"
)

// call is a function with its arguments.
type call struct {
	name string
	run  func() ([]any, api.Errno)
}

// termCalls returns a call of each function that takes rules and a term; steps are also the most.
func termCalls(list []api.Law, term string, steps int) []call {
	return []call{
		{"Next", func() ([]any, api.Errno) {
			l, e := rules.Next(list, term)
			return []any{l}, e
		}},
		{"Normal", func() ([]any, api.Errno) {
			s, n, e := rules.Normal(list, term, steps)
			return []any{s, n}, e
		}},
		{"Loop", func() ([]any, api.Errno) {
			l, e := rules.Loop(list, term, steps)
			return []any{l}, e
		}},
		{"Reach", func() ([]any, api.Errno) {
			l, e := rules.Reach(list, term, steps)
			return []any{l}, e
		}},
		{"IsLoop", func() ([]any, api.Errno) {
			return nil, rules.IsLoop(list, []string{term, term})
		}},
	}
}

// lawCalls returns a call of each function that takes rules; the term is also the precedence.
func lawCalls(list []api.Law, term string, reading [][]int, steps int) []call {
	return append(termCalls(list, term, steps),
		call{"Orient", func() ([]any, api.Errno) {
			s, e := rules.Orient(list)
			return []any{s}, e
		}},
		call{"Proves", func() ([]any, api.Errno) {
			return nil, rules.Proves(list, term)
		}},
		call{"Reading", func() ([]any, api.Errno) {
			l, e := rules.Reading(list)
			return []any{l}, e
		}},
		call{"Decreases", func() ([]any, api.Errno) {
			return nil, rules.Decreases(list, reading)
		}})
}

// otherCalls returns a call of each function that takes no rules.
func otherCalls(precedence string, reading [][]int, s, t string) []call {
	return []call{
		{"Match", func() ([]any, api.Errno) {
			m, e := rules.Match(s, t)
			return []any{m}, e
		}},
		{"Greater", func() ([]any, api.Errno) {
			is, e := rules.Greater(precedence, s, t)
			return []any{is}, e
		}},
		{"Value", func() ([]any, api.Errno) {
			v, e := rules.Value(reading, s)
			return []any{v}, e
		}},
		{"Size", func() ([]any, api.Errno) {
			n, e := rules.Size(s)
			return []any{n}, e
		}},
	}
}

// isZero reports whether each result is its zero value, or an empty list.
func isZero(results []any) bool {
	for _, r := range results {
		v := reflect.ValueOf(r)
		if v.Kind() == reflect.Slice && v.Len() > 0 || v.Kind() != reflect.Slice && !v.IsZero() {
			return false
		}
	}
	return true
}

func checkRefused(t *testing.T, x call, want api.Errno, arguments ...any) {
	t.Helper()
	if r, e := x.run(); e != want || !isZero(r) {
		t.Errorf("%s%.300v = %v, %d", x.name, arguments, r, e)
	}
}

// errorsOf are the errors that a function may return.
func errorsOf(name string) []api.Errno {
	switch name {
	case "Next", "Normal", "Reach", "Value":
		return []api.Errno{api.ErrArg, api.ErrSyntax, api.ErrFull}
	case "Match":
		return []api.Errno{api.ErrSyntax, api.ErrNone}
	case "Greater":
		return []api.Errno{api.ErrArg, api.ErrSyntax}
	case "Orient", "Reading":
		return []api.Errno{api.ErrArg, api.ErrNone}
	case "Proves", "Decreases":
		return []api.Errno{api.ErrArg, api.ErrAnswer}
	case "Loop":
		return []api.Errno{api.ErrArg, api.ErrSyntax, api.ErrFull, api.ErrNone}
	case "IsLoop":
		return []api.Errno{api.ErrArg, api.ErrSyntax, api.ErrAnswer}
	}
	return []api.Errno{api.ErrSyntax}
}

// someString is a random string of the letters of terms, or nearly a term.
func someString(random *rand.Rand) string {
	if random.Intn(3) > 0 {
		s := someTerm(random, 1+random.Intn(15), "abxyz")
		if i := random.Intn(len(s)); random.Intn(4) == 0 {
			s = s[:i] + s[i+1:]
		}
		return s
	}
	var b strings.Builder
	for range random.Intn(12) {
		b.WriteString(pick(random, "abcdefxyz(),g \x00\xff"))
	}
	return b.String()
}

// P1: all functions accept all strings and numbers; rule 4: with an error, all results are their zero values.
func TestAllArguments(t *testing.T) {
	numbers := []int{math.MinInt, -1 << 32, -2, -1, 0, 0, 1, 1, 1, 2, 2, 3, 4, 5, 6, 20, 199, 200, 201, 1 << 32, math.MaxInt - 1, math.MaxInt}
	precedences := []string{"", "abcdef", "fedcba", "cdabef", "abcde", "abcdeff", "aabcde", "abcdeg", "ABCDEF", "abcdef ", "a"}
	random := rand.New(rand.NewSource(17))
	number := func() int { return numbers[random.Intn(len(numbers))] }
	for i := range 2000 {
		var list []api.Law
		for range random.Intn(3) {
			list = append(list, api.Law{Left: someString(random), Right: someString(random)})
		}
		if i%2 == 0 {
			list = someLaws(random, 1+random.Intn(3), 4)
		}
		var reading [][]int
		for range 5 + random.Intn(3) {
			reading = append(reading, []int{number(), number(), number(), number()}[:random.Intn(5)])
		}
		s, u, p := someString(random), someString(random), precedences[random.Intn(len(precedences))]
		for _, x := range slices.Concat(termCalls(list, s, number()), lawCalls(list, p, reading, 0), otherCalls(p, reading, s, u)) {
			if r, e := x.run(); e != api.OK && (!isZero(r) || !slices.Contains(errorsOf(x.name), e)) {
				t.Errorf("%s with %v, %q, %q, %q, %v = %v, %d", x.name, list, s, u, p, reading, r, e)
			}
		}
	}
}

// spoil overwrites all of a list, with what lies behind it; a result that is no list shares nothing.
func spoil(result any) {
	switch l := result.(type) {
	case []string:
		for i := range l[:cap(l)] {
			l[:cap(l)][i] = "spoilt"
		}
	case [][]int:
		for _, m := range l {
			for i := range m[:cap(m)] {
				m[:cap(m)][i] = -99
			}
		}
		clear(l[:cap(l)])
	}
}

// checkNew checks that a call has the same results each time, and that they share no memory with earlier ones.
func checkNew(t *testing.T, x call) {
	t.Helper()
	first, e := x.run()
	second, _ := x.run()
	for _, r := range second {
		spoil(r)
	}
	if third, o := x.run(); e != o || !reflect.DeepEqual(first, third) {
		t.Errorf("%s = %v, %d, and then %v, %d", x.name, first, e, third, o)
	}
}

// P2: the result depends on the arguments only. Rule 5: no argument is changed, and results are new memory.
func TestResultsAreNew(t *testing.T) {
	random := rand.New(rand.NewSource(18))
	for i, list := range append(named(), someLaws(random, 4, 5), someLaws(random, 2, 3)) {
		reading := read(1, 2, 2, 1, 0, 2, 0, 1, 2, 1, 2, 1)
		terms := []string{"e(a,b)", "e(b,a)", "e(a,b)"}
		laws, numbers, strs := slices.Clone(list), read(1, 2, 2, 1, 0, 2, 0, 1, 2, 1, 2, 1), slices.Clone(terms)
		isLoop := call{"IsLoop", func() ([]any, api.Errno) { return nil, rules.IsLoop(list, terms) }}
		for _, term := range []string{"e(a,b)", "c(c(a))", "e(c(a),f(a,a))", "abcdef"} {
			for _, x := range slices.Concat(lawCalls(list, term, reading, i%6), otherCalls("cabfed", reading, term, term), []call{isLoop}) {
				checkNew(t, x)
				if !slices.Equal(laws, list) || !reflect.DeepEqual(numbers, reading) || !slices.Equal(strs, terms) {
					t.Fatalf("%s of %v changes an argument", x.name, laws)
				}
			}
		}
	}
}

// The lists of a reading share no memory with each other.
func TestListsOfReadingAreApart(t *testing.T) {
	reading, _ := rules.Reading(nil)
	for i, list := range reading {
		for j := range list[:cap(list)] {
			list[:cap(list)][j] = 10 * i
		}
	}
	for i, list := range reading {
		for _, n := range list {
			if n != 10*i {
				t.Errorf("%v: shared", reading)
			}
		}
	}
}
