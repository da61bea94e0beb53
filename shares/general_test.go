package shares_test

import (
	"math"
	"math/rand"
	"reflect"
	"slices"
	"testing"

	"numnah/api"
	"numnah/shares"
)

// call is a function with its arguments.
type call struct {
	name string
	run  func() ([]any, api.Errno)
}

// rateCalls returns a call of each function that takes rates.
func rateCalls(n network, rates []api.Frac, holds []int) []call {
	return []call{
		{"Check", func() ([]any, api.Errno) {
			return nil, shares.Check(n.pipes, n.users, rates, holds)
		}},
		{"Load", func() ([]any, api.Errno) {
			l, e := shares.Load(n.pipes, n.users, rates)
			return []any{l}, e
		}},
		{"Better", func() ([]any, api.Errno) {
			user, e := shares.Better(n.pipes, n.users, rates)
			return []any{user}, e
		}},
	}
}

// networkCalls returns a call of each function that takes pipes and users. Rates that are not possible are no error of Load.
func networkCalls(n network, rates []api.Frac, holds []int) []call {
	return append(rateCalls(n, rates, holds),
		call{"Fair", func() ([]any, api.Errno) {
			l, m, e := shares.Fair(n.pipes, n.users)
			return []any{l, m}, e
		}},
		call{"Whole", func() ([]any, api.Errno) {
			l, e := shares.Whole(n.pipes, n.users)
			return []any{l}, e
		}})
}

// claimCalls returns a call of each function that takes claims, and of Garment for the first two.
func claimCalls(rule int, h heirs, award []api.Frac) []call {
	a, b := 0, 0
	if len(h.claims) > 1 {
		a, b = h.claims[0], h.claims[1]
	}
	return []call{
		{"Award", func() ([]any, api.Errno) {
			l, e := shares.Award(rule, h.claims, h.estate)
			return []any{l}, e
		}},
		{"Right", func() ([]any, api.Errno) {
			return nil, shares.Right(rule, h.claims, h.estate, award)
		}},
		{"Agrees", func() ([]any, api.Errno) {
			p, is, e := shares.Agrees(h.claims, h.estate, award)
			return []any{p, is}, e
		}},
		{"Garment", func() ([]any, api.Errno) {
			f, g, e := shares.Garment(h.estate, a, b)
			return []any{f, g}, e
		}},
	}
}

// fractionCalls returns a call of each function that takes fractions alone.
func fractionCalls(list []api.Frac, f, g api.Frac) []call {
	return []call{
		{"Sum", func() ([]any, api.Errno) {
			s, e := shares.Sum(list)
			return []any{s}, e
		}},
		{"Compare", func() ([]any, api.Errno) {
			c, e := shares.Compare(f, g)
			return []any{c}, e
		}},
		{"Sorted", func() ([]any, api.Errno) {
			l, e := shares.Sorted(list)
			return []any{l}, e
		}},
	}
}

// isZero reports whether each result is its zero value, or an empty list.
func isZero(results []any) bool {
	for _, r := range results {
		v := reflect.ValueOf(r)
		if v.Kind() == reflect.Slice && v.Len() > 0 || v.Kind() != reflect.Slice && !v.IsZero() {
			return false
		}
	}
	return true
}

func checkRefused(t *testing.T, x call, want api.Errno, arguments ...any) {
	t.Helper()
	if r, e := x.run(); e != want || !isZero(r) {
		t.Errorf("%s%.200v = %v, %d", x.name, arguments, r, e)
	}
}

// errorsOf are the errors that a function may return.
func errorsOf(name string) []api.Errno {
	switch name {
	case "Right", "Agrees", "Check", "Load", "Better":
		return []api.Errno{api.ErrArg, api.ErrAnswer}
	}
	return []api.Errno{api.ErrArg}
}

// P1: all functions accept all numbers; rule 4: with an error, all results are their zero values.
func TestAllNumbers(t *testing.T) {
	numbers := []int{math.MinInt, -1 << 32, -1000000, -2, -1, 0, 1, 1, 1, 2, 3, 4, 5, 6, 19, 20, 21, 100, 101, 200, 201, 1000, 1001, 1000000, 1000001, 1 << 32, math.MaxInt - 1, math.MaxInt}
	random := rand.New(rand.NewSource(17))
	number := func() int { return numbers[random.Intn(len(numbers))] }
	small := func() int { return number() % (2 + random.Intn(3)) }
	for i := range 40000 {
		pick := number
		if i%2 == 0 {
			pick = small
		}
		var ints, holds []int
		var users []api.User
		var list []api.Frac
		for range 1 + random.Intn(3) {
			ints = append(ints, pick())
		}
		for range 1 + random.Intn(2) {
			users = append(users, api.User{Weight: pick(), Pipes: []int{pick(), pick()}[:1+random.Intn(2)]})
			list = append(list, frac(pick(), pick()))
			holds = append(holds, number())
		}
		h, n := heirs{ints, pick()}, network{ints, users}
		for _, x := range slices.Concat(claimCalls(pick(), h, list), networkCalls(n, list, holds), fractionCalls(list, frac(pick(), pick()), frac(pick(), pick()))) {
			if r, e := x.run(); e != api.OK && (!isZero(r) || !slices.Contains(errorsOf(x.name), e)) {
				t.Errorf("%s with %v, %v, %v, %v = %v, %d", x.name, h, n, list, holds, r, e)
			}
		}
	}
}

// spoil overwrites all of a list, with what lies behind it; a result that is no list shares nothing.
func spoil(result any) {
	switch l := result.(type) {
	case []int:
		for i := range l[:cap(l)] {
			l[:cap(l)][i] = -99
		}
	case []api.Frac:
		for i := range l[:cap(l)] {
			l[:cap(l)][i] = frac(-99, -99)
		}
	}
}

// checkNew checks that a call has the same results each time, and that they share memory neither with each other nor with earlier ones.
func checkNew(t *testing.T, x call) {
	t.Helper()
	first, e := x.run()
	for i := range first {
		second, _ := x.run()
		spoil(second[i])
		for j := range first {
			if i != j && !reflect.DeepEqual(first[j], second[j]) {
				t.Errorf("%s: its results share memory", x.name)
			}
		}
	}
	if third, o := x.run(); e != o || !reflect.DeepEqual(first, third) {
		t.Errorf("%s = %v, %d, and then %v, %d", x.name, first, e, third, o)
	}
}

func copied(users []api.User) []api.User {
	list := slices.Clone(users)
	for i := range list {
		list[i].Pipes = slices.Clone(users[i].Pipes)
	}
	return list
}

// P2: the result depends on the arguments only. Rule 5: no argument is changed, and results are new memory.
func TestResultsOfClaimsAreNew(t *testing.T) {
	for i, h := range someHeirs(18, 10) {
		award := fracs(award(i%5, h.claims, h.estate))
		claims, shared := slices.Clone(h.claims), slices.Clone(award)
		for _, x := range slices.Concat(claimCalls(i%5, h, award), fractionCalls(award, award[0], award[0])) {
			checkNew(t, x)
			if !slices.Equal(claims, h.claims) || !slices.Equal(shared, award) {
				t.Fatalf("%s of %v, %v changes an argument", x.name, h, shared)
			}
		}
	}
	list := pairs([2]int{3, 1}, [2]int{1, 2}, [2]int{-5, 3})
	for _, x := range fractionCalls(list, list[0], list[1]) {
		checkNew(t, x)
	}
	if !slices.Equal(list, pairs([2]int{3, 1}, [2]int{1, 2}, [2]int{-5, 3})) {
		t.Errorf("%v: changed", list)
	}
}

// P2, rule 5, for pipes.
func TestResultsOfPipesAreNew(t *testing.T) {
	random := rand.New(rand.NewSource(19))
	for _, n := range append(named(), someNetworks(19, 5)...) {
		fair, holds, _ := shares.Fair(n.pipes, n.users)
		for _, rates := range [][]api.Frac{fair, someRates(random, n)} {
			pipes, users, kept, held := slices.Clone(n.pipes), copied(n.users), slices.Clone(rates), slices.Clone(holds)
			for _, x := range networkCalls(n, rates, holds) {
				checkNew(t, x)
				if !slices.Equal(pipes, n.pipes) || !reflect.DeepEqual(users, n.users) || !slices.Equal(kept, rates) || !slices.Equal(held, holds) {
					t.Fatalf("%s of %v, %v, %v changes an argument", x.name, n, kept, held)
				}
			}
		}
	}
}
