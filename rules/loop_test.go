package rules_test

import (
	"math"
	"math/rand"
	"slices"
	"strings"
	"testing"

	"numnah/api"
	"numnah/rules"
)

// P8.4: steps of 0, the order, and a term that is reached in several ways.
func TestReachByHand(t *testing.T) {
	for _, x := range []struct {
		rules []api.Law
		term  string
		steps int
		want  []string
	}{
		{nil, "a", 5, []string{"a"}},
		{[]api.Law{}, "x", 0, []string{"x"}},
		{laws("a>b"), "a", 0, []string{"a"}},
		{laws("a>b"), "a", 1, []string{"a", "b"}},
		{laws("a>b"), "b", 5, []string{"b"}},
		{laws("b>a"), "b", 1, []string{"b", "a"}},
		{laws("b>a"), "e(b,b)", 1, []string{"e(b,b)", "e(a,b)", "e(b,a)"}},
		{laws("b>a"), "e(b,b)", 2, []string{"e(b,b)", "e(a,b)", "e(b,a)", "e(a,a)"}},
		{laws("b>a"), "e(b,b)", 5, []string{"e(b,b)", "e(a,b)", "e(b,a)", "e(a,a)"}},
		{laws("e(x,y)>e(y,x)"), "e(a,b)", 5, []string{"e(a,b)", "e(b,a)"}},
		{laws("a>a"), "a", 5, []string{"a"}},
		{laws("d(x)>c(x)", "d(x)>x", "c(x)>x"), "d(a)", 1, []string{"d(a)", "a", "c(a)"}},
		{laws("c(x)>c(c(x))"), "c(x)", 5, []string{"c(x)", "c(c(x))", "c(c(c(x)))", "c(c(c(c(x))))", "c(c(c(c(c(x)))))", "c(c(c(c(c(c(x))))))"}},
		{laws("b>c(b)", "c(x)>a"), "b", 2, []string{"b", "c(b)", "a", "c(c(b))"}},
	} {
		if l, e := rules.Reach(x.rules, x.term, x.steps); e != api.OK || !slices.Equal(l, x.want) {
			t.Errorf("Reach(%v, %s, %d) = %q, %d", x.rules, x.term, x.steps, l, e)
		}
	}
}

// P8.4: loops that close at the whole term, at a part, and with a substitution that is not the empty one; loops of all lengths.
func TestLoopByHand(t *testing.T) {
	cycle := laws("a>b", "b>c(a)", "c(x)>d(x)", "d(a)>e(a,b)", "e(x,b)>c(x)")
	for _, x := range []struct {
		rules []api.Law
		term  string
		steps int
		want  int // the number of its terms, 0 if there is none
	}{
		{nil, "a", 5, 0},
		{[]api.Law{}, "x", 5, 0},
		{laws("a>a"), "a", 0, 0},
		{laws("a>a"), "a", 1, 2},
		{laws("a>a"), "b", 5, 0},
		{laws("a>a"), "x", 5, 0},
		{laws("a>b"), "a", 5, 0},
		{laws("e(x,y)>e(y,x)"), "e(a,b)", 1, 0},
		{laws("e(x,y)>e(y,x)"), "e(a,b)", 2, 3},
		{laws("e(x,y)>e(y,x)"), "e(a,b)", 5, 3},
		{laws("e(x,y)>e(y,x)"), "e(a,a)", 5, 2},
		{laws("e(x,y)>e(y,x)"), "e(x,y)", 1, 2},
		{laws("e(x,y)>e(y,x)"), "e(x,x)", 1, 2},
		{laws("e(x,y)>e(y,x)"), "e(x,a)", 1, 0},
		{laws("e(x,y)>e(y,x)"), "e(x,a)", 2, 3},
		{laws("e(x,y)>e(y,x)"), "f(b,e(x,y))", 1, 2},
		{laws("a>c(a)"), "a", 1, 2},
		{laws("a>f(b,d(a))"), "a", 1, 2},
		{laws("a>f(b,d(a))"), "e(a,x)", 1, 0},
		{laws("a>f(b,d(a))"), "e(x,a)", 5, 0},
		{laws("d(x)>c(d(c(x)))"), "d(x)", 1, 2},
		{laws("d(x)>c(d(c(x)))"), "d(a)", 5, 0},
		{laws("d(x)>c(d(c(x)))", "c(x)>x"), "d(a)", 2, 3},
		{laws("d(x)>c(d(c(x)))", "c(x)>x"), "d(a)", 1, 0},
		{laws("e(c(x),y)>e(x,c(y))", "e(x,c(y))>e(c(c(x)),y)"), "e(c(x),y)", 1, 0},
		{laws("e(c(x),y)>e(x,c(y))", "e(x,c(y))>e(c(c(x)),y)"), "e(c(x),y)", 2, 3},
		{laws("a>b", "b>c(b)", "c(b)>a"), "a", 5, 4},
		{laws("a>b", "b>c(b)", "c(b)>a"), "a", 3, 4},
		{laws("a>b", "b>c(b)", "c(b)>a"), "a", 2, 0},
		{cycle, "d(a)", 5, 4},
		{laws("a>d(b)", "d(b)>c(d(b))", "c(d(b))>e(b,b)", "e(b,b)>f(b,b)", "f(x,x)>a"), "a", 5, 6},
		{laws("a>d(b)", "d(b)>c(d(b))", "c(d(b))>e(b,b)", "e(b,b)>f(b,b)", "f(x,x)>a"), "a", 4, 0},
	} {
		l, e := rules.Loop(x.rules, x.term, x.steps)
		want := api.OK
		if x.want == 0 {
			want = api.ErrNone
		}
		if e != want || len(l) != x.want {
			t.Errorf("Loop(%v, %s, %d) = %q, %d", x.rules, x.term, x.steps, l, e)
		}
		if e == api.OK && (l[0] != x.term || rules.IsLoop(x.rules, l) != api.OK) {
			t.Errorf("Loop(%v, %s, %d) = %q: no loop", x.rules, x.term, x.steps, l)
		}
	}
}

// checkLoops holds Reach and Loop against the definitions, P3 included.
func checkLoops(t *testing.T, list []api.Law, term string, steps int) {
	t.Helper()
	want, err := reach(list, term, steps)
	if l, e := rules.Reach(list, term, steps); e != err || !slices.Equal(l, want) {
		t.Errorf("Reach(%v, %s, %d) = %q, %d, not %q, %d", list, term, steps, l, e, want, err)
	}
	l, e := rules.Loop(list, term, steps)
	if err == api.OK {
		count := shortest(list, term, steps)
		if count == 0 {
			err = api.ErrNone
		}
		if len(l) != count || count > 0 && (l[0] != term || !isLoop(list, l) || rules.IsLoop(list, l) != api.OK) {
			t.Errorf("Loop(%v, %s, %d) = %q, %d: %d terms", list, term, steps, l, e, count)
		}
	}
	if e != err || e != api.OK && len(l) > 0 {
		t.Errorf("Loop(%v, %s, %d) = %q, %d, not %d", list, term, steps, l, e, err)
	}
}

// P8.4, P3
func TestLoopsOfNamedRules(t *testing.T) {
	terms := append(termsUpTo(3, "abcdefxy"), "e(e(a,b),e(x,y))", "e(e(e(a,a),a),a)", "f(c(c(a)),e(c(b),b))", "c(d(c(d(a))))", "e(c(c(x)),c(c(y)))")
	for _, list := range named() {
		for _, term := range terms {
			for steps := range 6 {
				checkLoops(t, list, term, steps)
			}
		}
		for _, term := range largeTerms(12, 4) {
			checkLoops(t, list, term, 1)
			checkLoops(t, list, term, 2)
		}
	}
}

// P8.4, P3: random rules, from their Lefts, and from terms that contain them.
func TestLoopsOfRandomRules(t *testing.T) {
	random := rand.New(rand.NewSource(13))
	loops := 0
	for i := range 600 {
		list := someLaws(random, 1+i%4, 1+random.Intn(4))
		for _, l := range list {
			steps := random.Intn(6)
			checkLoops(t, list, l.Left, steps)
			checkLoops(t, list, "f("+l.Left+","+someTerm(random, 3, "abx")+")", steps)
			if found, _ := rules.Loop(list, l.Left, steps); len(found) > 2 {
				loops++
			}
		}
	}
	if loops < 20 {
		t.Errorf("only %d loops of more than two terms", loops)
	}
}

// P8.4: exactly 300 terms can be reached, and one more.
func TestMaxReach(t *testing.T) {
	// Of 23 letters one or two have changed, or one of them twice: 1 + 23 + (23 * 22 / 2 + 23) = 300.
	twice := laws("a>b", "b>c(a)")
	l, e := rules.Reach(twice, comb(23), 2)
	if e != api.OK || len(l) != 300 {
		t.Errorf("Reach of 300 terms: %d terms, %d", len(l), e)
	}
	checkLoops(t, twice, comb(23), 2)
	// Of 24 letters at most two have changed: 1 + 24 + 24 * 23 / 2 = 301.
	for _, list := range [][]api.Law{laws("a>b"), laws("a>b", "a>a"), laws("a>a", "a>b")} {
		for _, x := range termCalls(list, comb(24), 2)[2:4] {
			checkRefused(t, x, api.ErrFull, x.name, list)
		}
		if l, e := rules.Reach(list, comb(24), 1); e != api.OK || len(l) != 25 {
			t.Errorf("Reach of 25 terms: %q, %d", l, e)
		}
	}
	// There is a loop, which takes only one step.
	if l, e := rules.Loop(laws("a>b", "a>a"), comb(24), 1); e != api.OK || len(l) != 2 {
		t.Errorf("Loop = %q, %d", l, e)
	}
	// The last level alone has too many, or one level before it.
	for _, steps := range []int{2, 3, 4, 5} {
		for _, x := range termCalls(laws("a>b", "b>a", "a>c(b)"), comb(20), steps)[2:4] {
			checkRefused(t, x, api.ErrFull, x.name, steps)
		}
	}
}

// P8.4: terms of exactly the greatest size that are reached, and of one more; also one that is reached by the last step.
func TestLargeReachedTerms(t *testing.T) {
	list := laws("a>c(a)")
	for length := 54; length <= 59; length++ {
		for steps := range 6 {
			want := api.OK
			if length+1+steps > 60 {
				want = api.ErrFull
			}
			term := chain(length, "a")
			if l, e := rules.Reach(list, term, steps); e != want || e == api.OK && len(l) != steps+1 {
				t.Errorf("Reach(%s, %d) = %q, %d", term, steps, l, e)
			}
			checkLoops(t, list, term, steps)
			// Here the first step closes a loop, and a later one leads to a term that is too large.
			checkLoops(t, append(list, law("a>a")), term, steps)
		}
	}
}

// P8.4: ErrArg for what is no rules, ErrSyntax, ErrArg for steps, ErrFull, ErrNone. The first two are tested with rewriting.
func TestStepErrors(t *testing.T) {
	for _, steps := range []int{-1, 6, 7, 100, math.MinInt, math.MaxInt, 1 << 32, 1<<32 + 1} {
		for _, list := range append(named(), laws("a>c(c(a))")) {
			for _, term := range []string{"a", "x", "e(a,b)", comb(30), chain(59, "a")} {
				for _, x := range termCalls(list, term, steps)[2:4] {
					checkRefused(t, x, api.ErrArg, list, term, steps)
				}
			}
		}
	}
}

// P8.4
func TestIsLoopByHand(t *testing.T) {
	swap := laws("e(x,y)>e(y,x)")
	for _, x := range []struct {
		rules []api.Law
		terms []string
		want  api.Errno
	}{
		{swap, []string{"e(a,b)", "e(b,a)", "e(a,b)"}, api.OK},
		{swap, []string{"e(x,y)", "e(y,x)"}, api.OK},
		{swap, []string{"e(a,b)", "e(b,a)"}, api.ErrAnswer},
		{swap, []string{"e(a,b)", "e(a,b)"}, api.ErrAnswer},
		{swap, []string{"e(a,b)", "e(b,a)", "e(b,a)"}, api.ErrAnswer},
		{swap, []string{"e(a,a)", "e(a,a)"}, api.OK},
		{swap, []string{"e(x,y)", "e(y,x)", "e(x,y)", "e(y,x)"}, api.OK},
		{swap, []string{"e(a,b)"}, api.ErrAnswer},
		{swap, nil, api.ErrAnswer},
		{swap, []string{}, api.ErrAnswer},
		{swap, []string{"x"}, api.ErrAnswer},
		{swap, []string{"x", "e(a,b)"}, api.ErrAnswer},
		{nil, []string{"a", "a"}, api.ErrAnswer},
		{nil, nil, api.ErrAnswer},
		{laws("a>c(a)"), []string{"a", "c(a)"}, api.OK},
		{laws("a>c(a)"), []string{"a", "c(a)", "c(c(a))"}, api.OK},
		{laws("a>c(a)"), []string{"a", "c(c(a))"}, api.ErrAnswer},
		{laws("a>c(a)"), []string{"d(a)", "d(c(a))"}, api.ErrAnswer},
		{laws("d(x)>c(d(c(x)))"), []string{"d(x)", "c(d(c(x)))"}, api.OK},
		{laws("d(x)>c(d(c(x)))"), []string{"d(a)", "c(d(c(a)))"}, api.ErrAnswer},
		{laws("c(x)>e(x,x)"), []string{chain(59, "a"), chain(59, "a")}, api.ErrAnswer},
		// Some next terms of these are too large, but not those of the loop.
		{laws("c(x)>e(x,x)", "a>a"), []string{chain(59, "a"), chain(59, "a")}, api.OK},
		{laws("a>a", "c(x)>c(c(x))"), []string{chain(59, "a"), chain(59, "a")}, api.OK},
	} {
		if e := rules.IsLoop(x.rules, x.terms); e != x.want {
			t.Errorf("IsLoop(%v, %q) = %d", x.rules, x.terms, e)
		}
	}
}

// P8.4: exactly 20 terms, and more. ErrSyntax comes before ErrArg for their number, and this before ErrAnswer.
func TestLongLoops(t *testing.T) {
	for _, x := range []struct {
		count int
		rules []api.Law
		want  api.Errno
	}{{19, laws("a>a"), api.OK}, {20, laws("a>a"), api.OK}, {21, laws("a>a"), api.ErrArg}, {20, laws("a>b"), api.ErrAnswer}, {21, laws("a>b"), api.ErrArg}, {100000, laws("a>a"), api.ErrArg}, {100000, nil, api.ErrArg}} {
		terms := slices.Repeat([]string{"a"}, x.count)
		if e := rules.IsLoop(x.rules, terms); e != x.want {
			t.Errorf("IsLoop of %d terms = %d", x.count, e)
		}
		for _, i := range []int{0, x.count / 2, x.count - 1} {
			wrong := slices.Clone(terms)
			wrong[i] = "aa"
			if e := rules.IsLoop(x.rules, wrong); e != api.ErrSyntax {
				t.Errorf("IsLoop of %d strings = %d", x.count, e)
			}
		}
	}
	for _, count := range []int{20, 21} {
		terms := make([]string, count)
		for i := range terms {
			terms[i] = "e(a,b)"
			if i%2 == 1 {
				terms[i] = "e(b,a)"
			}
		}
		want := api.ErrAnswer
		if count > 20 {
			want = api.ErrArg
		}
		if e := rules.IsLoop(laws("e(x,y)>e(y,x)"), terms); e != want {
			t.Errorf("IsLoop of %d terms = %d", count, e)
		}
	}
}

// P8.4: each string that is no term, at each place of a list.
func TestIsLoopErrors(t *testing.T) {
	for _, s := range noTerms() {
		for _, terms := range [][]string{{s}, {s, "a"}, {"a", s}, {s, s}, {"a", "a", s}, append(slices.Repeat([]string{"a"}, 30), s)} {
			if e := rules.IsLoop(laws("a>a"), terms); e != api.ErrSyntax {
				t.Errorf("IsLoop(%.300q) = %d", terms, e)
			}
			if e := rules.IsLoop(laws("x>a"), terms); e != api.ErrArg {
				t.Errorf("IsLoop(%.300q) = %d for no rules", terms, e)
			}
		}
	}
}

// P8.4: loops of random rules with a term changed, left out, or put in, and walks that are no loops.
func TestIsLoop(t *testing.T) {
	random := rand.New(rand.NewSource(14))
	check := func(list []api.Law, terms []string) {
		want := api.ErrAnswer
		if isLoop(list, terms) {
			want = api.OK
		}
		if e := rules.IsLoop(list, terms); e != want {
			t.Errorf("IsLoop(%v, %q) = %d, not %d", list, terms, e, want)
		}
	}
	for i := range 2000 {
		list := someLaws(random, 1+i%4, 1+random.Intn(4))
		terms := []string{strings.ReplaceAll(list[0].Left, "x", someTerm(random, 1+random.Intn(2), "abxyz"))}
		for range random.Intn(5) {
			next := nextTerms(list, terms[len(terms)-1])
			if len(next) == 0 || size(next[0]) > 60 {
				break
			}
			terms = append(terms, next[random.Intn(len(next))])
		}
		if slices.ContainsFunc(terms, func(s string) bool { return size(s) > 60 }) {
			continue
		}
		check(list, terms)
		check(list, terms[1:])
		place := random.Intn(len(terms))
		check(list, slices.Delete(slices.Clone(terms), place, place+1))
		check(list, slices.Insert(slices.Clone(terms), place, terms[place]))
		changed := slices.Clone(terms)
		changed[place] = someTerm(random, 2, "abxyz")
		check(list, changed)
	}
}
