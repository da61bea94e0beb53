package rules_test

import (
	"math"
	"math/rand"
	"slices"
	"strings"
	"testing"

	"numnah/api"
	"numnah/rules"
)

// P8.1: terms that no rule fits, rules that fit at the whole term, at a part, at several places, and below another place that fits; a variable twice; the same Left.
func TestNextByHand(t *testing.T) {
	for _, x := range []struct {
		rules []api.Law
		term  string
		want  []string
	}{
		{nil, "a", nil},
		{[]api.Law{}, "e(x,c(a))", nil},
		{laws("c(x)>x"), "x", nil},
		{laws("c(x)>x"), "a", nil},
		{laws("a>b"), "a", []string{"b"}},
		{laws("a>b"), "b", nil},
		{laws("a>a"), "a", []string{"a"}},
		{laws("e(x,y)>e(y,x)"), "e(a,b)", []string{"e(b,a)"}},
		{laws("e(x,y)>e(y,x)"), "e(x,y)", []string{"e(y,x)"}},
		{laws("e(x,y)>e(y,x)"), "e(a,a)", []string{"e(a,a)"}},
		{laws("c(x)>d(x)"), "f(a,c(y))", []string{"f(a,d(y))"}},
		{laws("c(x)>d(x)"), "f(c(a),c(b))", []string{"f(c(a),d(b))", "f(d(a),c(b))"}},
		{laws("c(x)>d(x)"), "c(c(a))", []string{"c(d(a))", "d(c(a))"}},
		{laws("c(x)>x"), "c(c(a))", []string{"c(a)"}},
		{laws("e(x,x)>x"), "e(e(a,a),a)", []string{"e(a,a)"}},
		{laws("e(x,x)>x"), "e(a,b)", nil},
		{laws("a>b", "a>c(b)", "a>b"), "d(a)", []string{"d(b)", "d(c(b))"}},
		{laws("a>b"), "e(a,e(a,a))", []string{"e(a,e(a,b))", "e(a,e(b,a))", "e(b,e(a,a))"}},
		{laws("f(x,y)>b"), "f(f(a,a),z)", []string{"b", "f(b,z)"}},
	} {
		if l, e := rules.Next(x.rules, x.term); e != api.OK || !slices.Equal(l, x.want) {
			t.Errorf("Next(%v, %s) = %q, %d", x.rules, x.term, l, e)
		}
	}
}

// P8.1
func TestNormalByHand(t *testing.T) {
	for _, x := range []struct {
		rules []api.Law
		term  string
		most  int
		want  string
		steps int
		err   api.Errno
	}{
		{nil, "e(x,a)", 0, "e(x,a)", 0, api.OK},
		{[]api.Law{}, "a", 200, "a", 0, api.OK},
		{laws("c(x)>d(x)"), "x", 0, "x", 0, api.OK},
		{laws("a>b"), "a", 1, "b", 1, api.OK},
		{laws("a>b"), "a", 0, "", 0, api.ErrFull},
		{laws("a>b"), "e(a,e(a,a))", 3, "e(b,e(b,b))", 3, api.OK},
		{laws("a>b"), "e(a,e(a,a))", 2, "", 0, api.ErrFull},
		{laws("a>b", "b>a"), "a", 200, "", 0, api.ErrFull},
		{laws("a>b", "a>x"), "a", 200, "", 0, api.ErrArg},
		// The first rule that fits, at the place that begins first among those that have none below.
		{laws("a>b", "a>c(b)"), "a", 5, "b", 1, api.OK},
		{laws("a>c(b)", "a>b"), "a", 5, "c(b)", 1, api.OK},
		{laws("e(x,y)>x", "a>b", "e(b,y)>y"), "e(a,c(a))", 5, "b", 3, api.OK},
		{laws("e(b,y)>y", "e(x,y)>x", "a>b"), "e(a,c(a))", 5, "c(b)", 3, api.OK},
		{laws("c(x)>b", "a>b"), "c(a)", 5, "b", 2, api.OK},
		{laws("c(x)>b", "a>a"), "c(a)", 200, "", 0, api.ErrFull},
		{laws("c(a)>b", "c(d(a))>a", "d(a)>a"), "c(d(a))", 5, "b", 2, api.OK},
		{laws("f(a,x)>x", "f(c(x),y)>c(f(x,y))"), "f(c(c(a)),c(a))", 3, "c(c(c(a)))", 3, api.OK},
	} {
		if s, n, e := rules.Normal(x.rules, x.term, x.most); s != x.want || n != x.steps || e != x.err {
			t.Errorf("Normal(%v, %s, %d) = %s, %d, %d", x.rules, x.term, x.most, s, n, e)
		}
	}
}

// checkNext holds Next against the definition.
func checkNext(t *testing.T, list []api.Law, term string) {
	t.Helper()
	want, err := nextTerms(list, term), api.OK
	if slices.ContainsFunc(want, func(s string) bool { return size(s) > 60 }) {
		want, err = nil, api.ErrFull
	}
	if l, e := rules.Next(list, term); e != err || !slices.Equal(l, want) {
		t.Errorf("Next(%v, %s) = %q, %d, not %q, %d", list, term, l, e, want, err)
	}
}

func checkNormal(t *testing.T, list []api.Law, term string, most int) {
	t.Helper()
	want, steps, err := normal(list, term, most)
	if s, n, e := rules.Normal(list, term, most); s != want || n != steps || e != err {
		t.Errorf("Normal(%v, %s, %d) = %s, %d, %d, not %s, %d, %d", list, term, most, s, n, e, want, steps, err)
	}
}

// P8.1: all small terms and large ones under the named rules.
func TestRewritingByNamedRules(t *testing.T) {
	terms := slices.Concat(termsUpTo(4, "abcefx"), termsOf(5, "ace"), largeTerms(3, 15))
	for _, list := range named() {
		for _, term := range terms {
			checkNext(t, list, term)
			checkNormal(t, list, term, 10)
		}
	}
}

// P8.1: random rules. The terms contain sides of them, so that many fit.
func TestRewritingByRandomRules(t *testing.T) {
	random := rand.New(rand.NewSource(4))
	for i := range 1500 {
		list := someLaws(random, 1+i%6, 1+random.Intn(5))
		for _, l := range list {
			term := strings.NewReplacer("x", l.Left, "y", someTerm(random, 3, "abxyz"), "z", "a").Replace(l.Left)
			if size(term) <= 60 {
				checkNext(t, list, term)
				checkNormal(t, list, term, random.Intn(10))
			}
		}
		checkNext(t, list, someTerm(random, 20, "abxyz"))
	}
}

// P8.1: a most of exactly the number of steps, of one less, and the greatest one.
func TestMost(t *testing.T) {
	list := laws("f(a,x)>x", "f(c(x),y)>c(f(x,y))", "e(a,x)>a", "e(c(x),y)>f(y,e(x,y))")
	for _, term := range []string{"a", "f(a,a)", "e(c(c(a)),c(c(a)))", "e(c(c(c(a))),c(c(c(c(c(a))))))"} {
		_, steps, _ := normal(list, term, 200)
		for most := range 201 {
			s, n, e := rules.Normal(list, term, most)
			if most < steps && (e != api.ErrFull || s != "" || n != 0) || most >= steps && (e != api.OK || n != steps) {
				t.Errorf("Normal(%s, %d) = %s, %d, %d: %d steps", term, most, s, n, e, steps)
			}
		}
	}
}

// P8.1: exactly 200 steps, and one more: each d ends after five.
func TestMostSteps(t *testing.T) {
	list := laws("c(x)>x", "d(x)>c(c(c(c(x))))")
	ds := strings.Repeat("d(", 40) + "a" + strings.Repeat(")", 40)
	if s, n, e := rules.Normal(list, ds, 200); s != "a" || n != 200 || e != api.OK {
		t.Errorf("Normal(%s, 200) = %s, %d, %d", ds, s, n, e)
	}
	checkNormal(t, list, ds, 199)
	checkNormal(t, list, "c("+ds+")", 200)
	for _, x := range []call{
		{"Normal", func() ([]any, api.Errno) {
			s, n, e := rules.Normal(list, ds, 199)
			return []any{s, n}, e
		}},
		{"Normal", func() ([]any, api.Errno) {
			s, n, e := rules.Normal(list, "c("+ds+")", 200)
			return []any{s, n}, e
		}},
	} {
		checkRefused(t, x, api.ErrFull, ds)
	}
}

// P8.1: next terms of exactly the greatest size, and of one more.
func TestLargeNextTerms(t *testing.T) {
	for _, x := range []struct {
		rules []api.Law
		term  string
		err   api.Errno
	}{
		{laws("a>c(a)"), chain(58, "a"), api.OK},
		{laws("a>c(a)"), chain(59, "a"), api.ErrFull},
		{laws("a>b", "c(x)>d(x)"), chain(59, "a"), api.OK},
		{laws("a>b", "c(x)>d(d(x))"), chain(59, "a"), api.ErrFull},
		{laws("d(x)>e(x,x)"), "d(" + chain(28, "a") + ")", api.OK},
		{laws("d(x)>e(x,x)"), "c(d(" + chain(28, "a") + "))", api.OK},
		{laws("d(x)>e(x,x)"), "c(c(d(" + chain(28, "a") + ")))", api.ErrFull},
		{laws("d(x)>e(x,x)"), "d(" + chain(29, "a") + ")", api.ErrFull},
		{laws("d(x)>e(e(x,e(x,x)),e(x,x))"), "d(" + chain(58, "a") + ")", api.ErrFull},
		{laws("d(x)>e(x,x)", "d(x)>x"), "d(" + chain(58, "a") + ")", api.ErrFull},
		{laws("d(x)>x", "d(x)>e(x,x)"), "d(" + chain(58, "a") + ")", api.ErrFull},
	} {
		checkNext(t, x.rules, x.term)
		if l, e := rules.Next(x.rules, x.term); e != x.err || (len(l) > 0) != (e == api.OK) {
			t.Errorf("Next(%v, %s) = %q, %d", x.rules, x.term, l, e)
		}
		checkNormal(t, x.rules, x.term, 1)
		checkNormal(t, x.rules, x.term, 2)
	}
	// The last term may be of the greatest size, but no term on the way may be larger, even if it would become smaller again.
	grow := laws("a>c(b)", "d(c(b))>a")
	for _, x := range []struct {
		term string
		err  api.Errno
	}{{chain(57, "d(b)"), api.OK}, {chain(57, "a"), api.OK}, {chain(58, "a"), api.OK}, {chain(59, "a"), api.ErrFull}, {"d(" + chain(58, "a") + ")", api.ErrFull}} {
		if _, _, e := rules.Normal(grow, x.term, 200); e != x.err {
			t.Errorf("Normal(%s) = %d", x.term, e)
		}
		checkNormal(t, grow, x.term, 200)
	}
}

// notLaws are lists that are not rules.
func notLaws() [][]api.Law {
	lists := [][]api.Law{
		slices.Repeat(laws("a>b"), 7), make([]api.Law, 1), make([]api.Law, 7), make([]api.Law, 100000), slices.Repeat(laws("a>b"), 100000),
		laws("x>x"), laws("y>a"), laws("z>c(z)"), laws("c(x)>y"), laws("a>x"), laws("c(y)>e(y,z)"), laws("e(x,y)>f(z,x)"), laws("e(x,y)>f(x,c(z))"),
		laws("a>b", "x>x"), laws("c(x)>y", "a>b"), laws("a>b", "a>b", "a>b", "a>b", "a>b", "c(x)>e(x,y)"),
	}
	for _, s := range append(noTerms(), chain(12, "a"), comb(7), chain(58, "x")) {
		lists = append(lists, []api.Law{{Left: s, Right: "a"}}, []api.Law{{Left: "e(c(x),y)", Right: s}}, []api.Law{{Left: s, Right: s}})
	}
	return lists
}

// P8.1: rules with sides of exactly the greatest size.
func TestLargestRules(t *testing.T) {
	large := []string{chain(11, "a"), chain(11, "x"), "c(" + comb(6) + ")", "f(" + chain(4, "x") + "," + chain(5, "x") + ")"}
	for _, left := range large {
		for _, right := range append(large, "a") {
			list := []api.Law{{Left: left, Right: right}}
			if !areLaws(list) {
				continue
			}
			for _, term := range []string{left, "c(" + left + ")", strings.ReplaceAll(left, "x", "b")} {
				if l, e := rules.Next(list, term); e != api.OK || len(l) == 0 {
					t.Errorf("Next(%v, %s) = %q, %d", list, term, l, e)
				}
				checkNext(t, list, term)
			}
			six := slices.Repeat(list, 6)
			checkNext(t, six, left)
			checkNormal(t, six, left, 3)
		}
	}
}

// P8.1: ErrArg for what is no rules comes before ErrSyntax, ErrSyntax before ErrArg for most, and this before ErrFull.
func TestRewritingErrors(t *testing.T) {
	for _, list := range notLaws() {
		for _, term := range []string{"a", "", "c(g)", chain(59, "a")} {
			for _, x := range lawCalls(list, term, nil, 0) {
				checkRefused(t, x, api.ErrArg, list, term)
			}
		}
	}
	for _, s := range noTerms() {
		for _, list := range named() {
			for _, most := range []int{-1, 0, 201, math.MinInt, math.MaxInt} {
				for _, x := range termCalls(list, s, most) {
					checkRefused(t, x, api.ErrSyntax, list, s, most)
				}
			}
		}
	}
	for _, most := range []int{-1, 201, 1000, math.MinInt, math.MaxInt, 1 << 32, 1<<32 + 1} {
		for _, list := range append(named(), laws("a>a"), laws("a>c(a)")) {
			for _, term := range []string{"a", "x", chain(59, "a")} {
				if s, n, e := rules.Normal(list, term, most); e != api.ErrArg || s != "" || n != 0 {
					t.Errorf("Normal(%v, %s, %d) = %s, %d, %d", list, term, most, s, n, e)
				}
			}
		}
	}
}
