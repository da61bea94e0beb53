package rules_test

import (
	"math/rand"
	"slices"
	"strings"
	"testing"

	"numnah/api"
	"numnah/rules"
)

// P8.2: each way to be greater, and what comes near it.
func TestGreaterByHand(t *testing.T) {
	for _, x := range []struct {
		precedence, s, t string
		want             bool
	}{
		{"abcdef", "c(d(x))", "d(c(x))", true},
		{"abdcef", "c(d(x))", "d(c(x))", false},
		{"abdcef", "d(c(x))", "c(d(x))", true},
		// A variable that occurs in the other term.
		{"abcdef", "c(x)", "x", true},
		{"abcdef", "e(a,c(y))", "y", true},
		{"abcdef", "c(x)", "y", false},
		{"abcdef", "a", "x", false},
		{"abcdef", "x", "x", false},
		{"abcdef", "x", "y", false},
		{"abcdef", "x", "f(b,b)", false},
		{"fedcba", "x", "a", false},
		// A part is the other term, or is greater.
		{"abcdef", "f(a,b)", "a", true},
		{"abcdef", "f(x,a)", "a", true},
		{"abcdef", "f(x,c(b))", "d(b)", true},
		{"abcdef", "d(f(x,c(b)))", "c(b)", true},
		{"abcdef", "f(b,b)", "a", false},
		// Another symbol.
		{"abcdef", "a", "b", true},
		{"abcdef", "b", "a", false},
		{"abcdef", "a", "f(b,b)", true},
		{"abcdef", "a", "f(b,a)", false},
		{"abcdef", "e(x,y)", "f(y,x)", true},
		{"abcdef", "e(x,y)", "f(y,f(x,y))", true},
		{"abcdef", "e(x,y)", "f(y,z)", false},
		{"abcdef", "f(x,y)", "e(x,y)", false},
		// The same symbol: at the first position at which the parts differ.
		{"abcdef", "a", "a", false},
		{"abcdef", "c(a)", "c(b)", true},
		{"abcdef", "c(b)", "c(a)", false},
		{"abcdef", "e(x,y)", "e(x,y)", false},
		{"abcdef", "e(x,y)", "e(y,x)", false},
		{"abcdef", "e(a,b)", "e(b,a)", true},
		{"abcdef", "e(x,a)", "e(x,b)", true},
		{"abcdef", "e(x,b)", "e(x,a)", false},
		{"abcdef", "e(c(x),y)", "e(x,c(y))", false},
		{"abcdef", "e(c(x),y)", "e(x,e(x,y))", true},
		{"abcdef", "e(e(x,y),z)", "e(x,e(y,z))", true},
		{"abcdef", "e(x,e(y,z))", "e(e(x,y),z)", false},
		{"abcdef", "e(b,a)", "e(a,b)", false},
		{"bacdef", "e(b,a)", "e(a,b)", true},
		{"abcdef", "c(c(x))", "c(x)", true},
		{"abcdef", "c(x)", "c(c(x))", false},
	} {
		if is, e := rules.Greater(x.precedence, x.s, x.t); is != x.want || e != api.OK {
			t.Errorf("Greater(%s, %s, %s) = %v, %d", x.precedence, x.s, x.t, is, e)
		}
	}
}

func checkGreater(t *testing.T, precedence, s, u string) {
	t.Helper()
	if is, e := rules.Greater(precedence, s, u); e != api.OK || is != greater(precedence, parse(s), parse(u)) {
		t.Errorf("Greater(%s, %s, %s) = %v, %d", precedence, s, u, is, e)
	}
}

// P8.2: the definition, for all small terms and some of the precedences, and for random terms and all of them.
func TestGreater(t *testing.T) {
	terms := termsUpTo(3, "abcdefxyz")
	for _, p := range []string{"abcdef", "fedcba", "cdabef", "efcdab", "dfbeca"} {
		for _, s := range terms {
			for _, u := range terms {
				checkGreater(t, p, s, u)
			}
		}
	}
	random := rand.New(rand.NewSource(5))
	for _, p := range allPrecedences() {
		for range 40 {
			s, u := someTerm(random, 1+random.Intn(8), "abxy"), someTerm(random, 1+random.Intn(8), "abxy")
			checkGreater(t, p, s, u)
			checkGreater(t, p, "e(a,"+s+")", "e(a,"+u+")")
			checkGreater(t, p, "f("+s+","+u+")", "f("+u+","+s+")")
		}
	}
}

// P8.2, P1: the largest terms. Who compares the same parts again and again does not come to an end.
func TestGreaterOfLargeTerms(t *testing.T) {
	c, d := chain(59, "x"), strings.ReplaceAll(chain(59, "x"), "c", "d")
	dy := strings.ReplaceAll(d, "x", "y")
	other := strings.ReplaceAll(comb(30), "e", "f")
	for _, x := range []struct {
		s, t string
		want bool
	}{
		{c, d, true}, {d, c, false}, {c, dy, false}, {dy, c, false}, {c, chain(58, "x"), true}, {chain(58, "x"), c, false}, {c, c, false},
		{comb(30), other, true}, {other, comb(30), false}, {comb(30), comb(29), true}, {comb(30), strings.ReplaceAll(other, "a", "x"), false}, {strings.ReplaceAll(comb(30), "a", "b"), comb(30), false}, {strings.ReplaceAll(comb(30), "a", "x"), strings.ReplaceAll(other, "a", "x"), true},
	} {
		if is, e := rules.Greater("abcdef", x.s, x.t); is != x.want || e != api.OK {
			t.Errorf("Greater(abcdef, %s, %s) = %v, %d", x.s, x.t, is, e)
		}
	}
	for _, s := range largeTerms(6, 100) {
		for _, u := range largeTerms(7, 100) {
			if is, e := rules.Greater("cfbead", s, u); e != api.OK || is && s == u {
				t.Errorf("Greater(cfbead, %s, %s) = %v, %d", s, u, is, e)
			}
		}
	}
}

// noPrecedences are strings that are no precedences.
func noPrecedences() []string {
	return []string{"", "a", "abcde", "abcdeg", "abcdee", "aabcdef", "abcdeff", "abcdefa", "abcdef ", " abcdef", "ABCDEF", "abcdxy", "abc def", "a,b,c,d,e,f", "aaaaaa", "bcdef", "abcdeé", "abcdefg", "\x00bcdef", strings.Repeat("abcdef", 2), strings.Repeat("abcdef", 100000)}
}

// P8.2: ErrArg for what is no precedence comes before ErrSyntax.
func TestOrderErrors(t *testing.T) {
	for _, p := range noPrecedences() {
		for _, pair := range [][2]string{{"a", "b"}, {"c(x)", "x"}, {"", "a"}, {"a", "c"}, {"", ""}} {
			if is, e := rules.Greater(p, pair[0], pair[1]); is || e != api.ErrArg {
				t.Errorf("Greater(%.100q, %q) = %v, %d", p, pair, is, e)
			}
		}
		for _, list := range append(named(), laws("a>a"), laws("x>a")) {
			if e := rules.Proves(list, p); e != api.ErrArg {
				t.Errorf("Proves(%v, %.100q) = %d", list, p, e)
			}
		}
	}
	for _, s := range noTerms() {
		for _, pair := range [][2]string{{s, "a"}, {"a", s}, {"c(" + chain(10, "x") + ")", s}, {s, s}} {
			if is, e := rules.Greater("abcdef", pair[0], pair[1]); is || e != api.ErrSyntax {
				t.Errorf("Greater(abcdef, %.100q, %.100q) = %v, %d", pair[0], pair[1], is, e)
			}
		}
	}
}

// P8.2
func TestOrientByHand(t *testing.T) {
	for _, x := range []struct {
		rules []api.Law
		want  string
		err   api.Errno
	}{
		{nil, "abcdef", api.OK},
		{[]api.Law{}, "abcdef", api.OK},
		{laws("c(d(x))>d(c(x))"), "abcdef", api.OK},
		{laws("d(c(x))>c(d(x))"), "abdcef", api.OK},
		{laws("c(x)>d(x)", "d(x)>c(x)"), "", api.ErrNone},
		{laws("e(x,y)>e(y,x)"), "", api.ErrNone},
		{laws("a>a"), "", api.ErrNone},
		{laws("b>a"), "bacdef", api.OK},
		{laws("f(x,y)>a"), "bcdefa", api.OK},
		{laws("f(x,y)>e(y,x)", "e(x,y)>d(x)", "d(x)>c(x)", "c(x)>b", "b>a"), "fedcba", api.OK},
		{laws("e(x,y)>f(a,x)", "b>a"), "bcdeaf", api.OK},
		{laws("c(x)>c(c(x))"), "", api.ErrNone},
		{laws("e(x,x)>x"), "abcdef", api.OK},
	} {
		if s, e := rules.Orient(x.rules); s != x.want || e != x.err {
			t.Errorf("Orient(%v) = %s, %d", x.rules, s, e)
		}
	}
}

// orient tries all precedences.
func orient(list []api.Law) (string, api.Errno) {
	for _, p := range allPrecedences() {
		if proves(list, p) {
			return p, api.OK
		}
	}
	return "", api.ErrNone
}

func checkOrient(t *testing.T, list []api.Law) {
	t.Helper()
	want, err := orient(list)
	p, e := rules.Orient(list)
	if p != want || e != err {
		t.Errorf("Orient(%v) = %s, %d, not %s, %d", list, p, e, want, err)
	}
	if e == api.OK && rules.Proves(list, p) != api.OK {
		t.Errorf("Proves(%v, %s): not OK", list, p)
	}
}

// P8.2, P3, P4: the smallest precedence, for all small single rules, the named and random ones.
func TestOrient(t *testing.T) {
	for _, l := range smallLaws(3, "abcefx") {
		checkOrient(t, []api.Law{l})
	}
	for _, list := range named() {
		checkOrient(t, list)
	}
	random := rand.New(rand.NewSource(6))
	for i := range 300 {
		checkOrient(t, someLaws(random, 1+i%3, 2+i%5))
	}
	for range 40 {
		checkOrient(t, orientable(random))
	}
}

// orientable are up to six random rules that some precedence proves, with sides of up to eight symbols and variables.
func orientable(random *rand.Rand) []api.Law {
	all := allPrecedences()
	p := all[random.Intn(len(all))]
	var list []api.Law
	for count := 1 + random.Intn(6); len(list) < count; {
		if l := someLaws(random, 1, 8); proves(l, p) {
			list = append(list, l...)
		}
	}
	return list
}

// P8.2: all precedences for named rules, and those that random ones have.
func TestProves(t *testing.T) {
	random := rand.New(rand.NewSource(7))
	for _, list := range slices.Concat(named(), [][]api.Law{orientable(random), orientable(random), orientable(random), laws("f(x,y)>e(y,x)", "e(x,y)>d(x)", "d(x)>c(x)", "c(x)>b", "b>a")}) {
		for _, p := range allPrecedences() {
			want := api.ErrAnswer
			if proves(list, p) {
				want = api.OK
			}
			if e := rules.Proves(list, p); e != want {
				t.Errorf("Proves(%v, %s) = %d", list, p, e)
			}
		}
	}
}
