package parse_test

import (
	"math"
	"math/rand"
	"reflect"
	"slices"
	"strings"
	"testing"

	"numnah/api"
	"numnah/parse"
)

// call is a function with its arguments.
type call struct {
	name string
	run  func() ([]any, api.Errno)
}

// wordCalls returns a call of each function that takes a single word and nothing else.
func wordCalls(word string) []call {
	return []call{
		{"Copying", func() ([]any, api.Errno) {
			l, e := parse.Copying(word)
			return []any{l}, e
		}},
		{"Learning", func() ([]any, api.Errno) {
			l, e := parse.Learning(word)
			return []any{l}, e
		}},
		{"Substrings", func() ([]any, api.Errno) {
			l, e := parse.Substrings(word)
			return []any{l}, e
		}},
		{"Delta", func() ([]any, api.Errno) {
			f, k, e := parse.Delta(word)
			return []any{f, k}, e
		}},
		{"Fewest", func() ([]any, api.Errno) {
			l, e := parse.Fewest(word)
			return []any{l}, e
		}},
		{"Turns", func() ([]any, api.Errno) {
			s, i, e := parse.Turns(word)
			return []any{s, i}, e
		}},
		{"Runs", func() ([]any, api.Errno) {
			n, e := parse.Runs(word)
			return []any{n}, e
		}},
		{"Longest", func() ([]any, api.Errno) {
			s, i, j, e := parse.Longest(word)
			return []any{s, i, j}, e
		}},
	}
}

// otherCalls returns a call of each function that takes a word and more.
func otherCalls(word, other string, factors []api.Factor, set []int, p, q int) []call {
	return []call{
		{"Unlearn", func() ([]any, api.Errno) {
			w, e := parse.Unlearn(factors, word)
			return []any{w}, e
		}},
		{"Cheapest", func() ([]any, api.Errno) {
			l, c, e := parse.Cheapest(word, p, q)
			return []any{l, c}, e
		}},
		{"Cost", func() ([]any, api.Errno) {
			c, e := parse.Cost(word, factors, p, q)
			return []any{c}, e
		}},
		{"Read", func() ([]any, api.Errno) {
			w, e := parse.Read(factors, word)
			return []any{w}, e
		}},
		{"Touches", func() ([]any, api.Errno) {
			s, is, e := parse.Touches(word, set)
			return []any{s, is}, e
		}},
		{"Common", func() ([]any, api.Errno) {
			s, e := parse.Common(word, other)
			return []any{s}, e
		}},
	}
}

// isZero reports whether each result is its zero value, or an empty list.
func isZero(results []any) bool {
	for _, r := range results {
		v := reflect.ValueOf(r)
		if v.Kind() == reflect.Slice && v.Len() > 0 || v.Kind() != reflect.Slice && !v.IsZero() {
			return false
		}
	}
	return true
}

func checkRefused(t *testing.T, x call, arguments ...any) {
	t.Helper()
	if r, e := x.run(); e != api.ErrArg || !isZero(r) {
		t.Errorf("%s%.300v = %v, %d", x.name, arguments, r, e)
	}
}

// ErrArg comes first for every function if a string is no word: before ErrNone of Longest and ErrAnswer of Cost.
func TestWhatIsNoWord(t *testing.T) {
	for _, s := range noWords() {
		for _, x := range wordCalls(s) {
			checkRefused(t, x, s)
		}
		for _, factors := range [][]api.Factor{nil, factorsOf(-1, 1), factorsOf(0, 1), factorsOf(0, 1, 1, 2), factorsOf(-1, 1, 0, 1), slices.Repeat(factorsOf(-1, 1), len(s)%1000), slices.Repeat(factorsOf(0, 1), len(s)%1000)} {
			for _, p := range []int{1, 0} {
				for _, x := range otherCalls(s, "ab", factors, []int{0}, p, 1) {
					checkRefused(t, x, s, factors, p)
				}
			}
		}
		for _, w := range []string{"", "a", "abcd", s, strings.Repeat("a", 160)} {
			if c, e := parse.Common(w, s); c != "" || e != api.ErrArg {
				t.Errorf("Common(%s, %.200s) = %s, %d", w, s, c, e)
			}
		}
		for _, set := range [][]int{nil, {}, {0}, {1, 0}, {-1}} {
			if c, is, e := parse.Touches(s, set); c != "" || is || e != api.ErrArg {
				t.Errorf("Touches(%.200s, %v) = %s, %v, %d", s, set, c, is, e)
			}
		}
	}
}

// A plan, or factors, for what is no word.
func TestFactorsOfNoWord(t *testing.T) {
	for _, s := range []string{"e", "ae", "abe", "aeb", "A", "a b", "aé"} {
		plan := slices.Repeat(factorsOf(-1, 1), len(s))
		if w, e := parse.Read(plan, s); w != "" || e != api.ErrArg {
			t.Errorf("Read(%v, %s) = %s, %d", plan, s, w, e)
		}
		if c, e := parse.Cost(s, plan, 1, 1); c != 0 || e != api.ErrArg {
			t.Errorf("Cost(%s, %v) = %d, %d", s, plan, c, e)
		}
		factors := slices.Repeat(factorsOf(0, 1), len(s))
		if w, e := parse.Unlearn(factors, s); w != "" || e != api.ErrArg {
			t.Errorf("Unlearn(%v, %s) = %s, %d", factors, s, w, e)
		}
	}
}

// errorsOf are the errors that a function may return.
func errorsOf(name string) []api.Errno {
	switch name {
	case "Cost":
		return []api.Errno{api.ErrArg, api.ErrAnswer}
	case "Longest":
		return []api.Errno{api.ErrArg, api.ErrNone}
	}
	return []api.Errno{api.ErrArg}
}

// someString is a random word, or nearly one, or none at all.
func someString(random *rand.Rand) string {
	switch random.Intn(6) {
	case 0:
		return someWord(random, random.Intn(8), "abcde \x00\xff")
	case 1:
		return someWord(random, 150+random.Intn(20), "abcd")
	case 2:
		return patchwork(random, 1+random.Intn(160))
	}
	return someWord(random, random.Intn(10), "abc")
}

// P1: all functions accept all strings and numbers; rule 4: with an error, all results are their zero values.
func TestAllArguments(t *testing.T) {
	numbers := []int{math.MinInt, math.MinInt + 1, -1 << 32, -160, -2, -1, -1, -1, -1, 0, 0, 0, 0, 0, 1, 1, 1, 1, 1, 1, 2, 2, 2, 3, 3, 4, 5, 14, 99, 100, 101, 159, 160, 161, 1 << 32, 1<<32 + 1, math.MaxInt - 1, math.MaxInt}
	random := rand.New(rand.NewSource(98))
	number := func() int { return numbers[random.Intn(len(numbers))] }
	for range 5000 {
		var factors []api.Factor
		for range random.Intn(6) {
			factors = append(factors, api.Factor{From: number(), Length: number()})
		}
		var set []int
		for range random.Intn(4) {
			set = append(set, number())
		}
		if random.Intn(2) == 0 {
			slices.Sort(set)
		}
		s, u, p, q := someString(random), someString(random), number(), number()
		for _, x := range append(wordCalls(s), otherCalls(s, u, factors, set, p, q)...) {
			if r, e := x.run(); e != api.OK && (!isZero(r) || !slices.Contains(errorsOf(x.name), e)) {
				t.Errorf("%s with %s, %s, %v, %v, %d, %d = %v, %d", x.name, s, u, factors, set, p, q, r, e)
			}
		}
	}
}

// spoil overwrites all of a list, with what lies behind it; a result that is no list shares nothing.
func spoil(result any) {
	switch l := result.(type) {
	case []int:
		for i := range l[:cap(l)] {
			l[:cap(l)][i] = -99
		}
	case []api.Factor:
		for i := range l[:cap(l)] {
			l[:cap(l)][i] = api.Factor{From: -99, Length: -99}
		}
	}
}

// checkNew checks that a call has the same results each time, and that they share no memory with earlier ones.
func checkNew(t *testing.T, x call) {
	t.Helper()
	first, e := x.run()
	for range 3 {
		second, _ := x.run()
		for _, r := range second {
			spoil(r)
		}
	}
	if third, o := x.run(); e != o || !reflect.DeepEqual(first, third) {
		t.Errorf("%s = %v, %d, and then %v, %d", x.name, first, e, third, o)
	}
}

// P2: the result depends on the arguments only. Rule 5: no argument is changed, and results are new memory.
func TestResultsAreNew(t *testing.T) {
	random := rand.New(rand.NewSource(99))
	for _, w := range append(longWords(), "", "a", "abab", "aabaabaab", "abcd", "cabdbacbdab") {
		some := slices.DeleteFunc(upTo(len(w)), func(int) bool { return random.Intn(2) == 0 })
		learnt, last := learning(w)
		letters := ""
		at := 0
		for _, f := range copying(w) {
			if f.From == -1 {
				letters += w[at : at+1]
			}
			at += f.Length
		}
		for _, x := range []struct {
			word    string
			factors []api.Factor
			set     []int
		}{{w, copying(w), some}, {letters, copying(w), nil}, {last, learnt, nil}} {
			factors, set := slices.Clone(x.factors), slices.Clone(x.set)
			for _, c := range append(wordCalls(x.word), otherCalls(x.word, w, factors, set, 2, 3)...) {
				checkNew(t, c)
				if !slices.Equal(factors, x.factors) || !slices.Equal(set, x.set) {
					t.Fatalf("%s of %s changes an argument", c.name, x.word)
				}
			}
		}
	}
}

// The chapter's examples.
func TestExamples(t *testing.T) {
	if l, e := parse.Copying("abab"); !slices.Equal(l, factorsOf(-1, 1, -1, 1, 0, 2)) || e != api.OK {
		t.Errorf("Copying = %v, %d", l, e)
	}
	if l, e := parse.Learning("abab"); !slices.Equal(l, factorsOf(0, 1, 0, 1, 1, 2)) || e != api.OK {
		t.Errorf("Learning = %v, %d", l, e)
	}
	if l, e := parse.Substrings("abab"); !slices.Equal(l, []int{1, 2, 2, 2, 1}) || e != api.OK {
		t.Errorf("Substrings = %v, %d", l, e)
	}
	if f, k, e := parse.Delta("abab"); f != (api.Frac{Num: 2, Den: 1}) || k != 1 || e != api.OK {
		t.Errorf("Delta = %v, %d, %d", f, k, e)
	}
	if l, e := parse.Fewest("abab"); !slices.Equal(l, []int{0, 1}) || e != api.OK {
		t.Errorf("Fewest = %v, %d", l, e)
	}
	if s, i, e := parse.Turns("abab"); s != "bbaa" || i != 0 || e != api.OK {
		t.Errorf("Turns = %s, %d, %d", s, i, e)
	}
	if n, e := parse.Runs("abab"); n != 2 || e != api.OK {
		t.Errorf("Runs = %d, %d", n, e)
	}
}
