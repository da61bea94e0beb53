package rules_test

import (
	"math/rand"
	"strings"
	"testing"

	"numnah/api"
	"numnah/rules"
)

// P8.1
func TestMatchByHand(t *testing.T) {
	for _, x := range []struct {
		pattern, term string
		want          [3]string
		err           api.Errno
	}{
		{"x", "a", [3]string{"a"}, api.OK},
		{"x", "x", [3]string{"x"}, api.OK},
		{"x", "y", [3]string{"y"}, api.OK},
		{"z", "e(x,z)", [3]string{"", "", "e(x,z)"}, api.OK},
		{"a", "a", [3]string{}, api.OK},
		{"a", "b", [3]string{}, api.ErrNone},
		{"a", "x", [3]string{}, api.ErrNone},
		{"c(x)", "x", [3]string{}, api.ErrNone},
		{"c(x)", "c(x)", [3]string{"x"}, api.OK},
		{"c(x)", "c(c(x))", [3]string{"c(x)"}, api.OK},
		{"c(x)", "d(x)", [3]string{}, api.ErrNone},
		{"c(c(x))", "c(x)", [3]string{}, api.ErrNone},
		{"e(x,y)", "e(y,x)", [3]string{"y", "x"}, api.OK},
		{"e(y,x)", "e(a,b)", [3]string{"b", "a"}, api.OK},
		{"e(x,x)", "e(c(y),c(y))", [3]string{"c(y)"}, api.OK},
		{"e(x,x)", "e(c(y),c(x))", [3]string{}, api.ErrNone},
		{"e(x,x)", "e(x,y)", [3]string{}, api.ErrNone},
		{"e(x,c(x))", "e(x,c(x))", [3]string{"x"}, api.OK},
		{"e(x,c(x))", "e(c(a),a)", [3]string{}, api.ErrNone},
		{"e(x,y)", "f(x,y)", [3]string{}, api.ErrNone},
		{"f(z,e(y,x))", "f(a,e(b,c(a)))", [3]string{"c(a)", "b", "a"}, api.OK},
		{"f(a,x)", "f(b,x)", [3]string{}, api.ErrNone},
		{"f(x,a)", "f(b,b)", [3]string{}, api.ErrNone},
	} {
		if m, e := rules.Match(x.pattern, x.term); m != x.want || e != x.err {
			t.Errorf("Match(%s, %s) = %q, %d", x.pattern, x.term, m, e)
		}
	}
	large := chain(59, "y")
	if m, e := rules.Match("x", large); m != [3]string{large} || e != api.OK {
		t.Errorf("Match(x, %s) = %q, %d", large, m, e)
	}
	if m, e := rules.Match(chain(59, "z"), large); m != [3]string{"", "", "y"} || e != api.OK {
		t.Errorf("Match of the largest terms = %q, %d", m, e)
	}
}

// checkMatch tries what must be the substitution if there is one.
func checkMatch(t *testing.T, pattern, term string) {
	t.Helper()
	var want [3]string
	s, ok := fitting(parse(pattern), parse(term))
	for name, u := range s {
		if ok {
			want[name-'x'] = u.String()
		}
	}
	m, e := rules.Match(pattern, term)
	if m != want || ok && e != api.OK || !ok && e != api.ErrNone {
		t.Errorf("Match(%s, %s) = %q, %d, not %q", pattern, term, m, e, want)
	}
}

// P8.1
func TestMatch(t *testing.T) {
	terms := termsUpTo(3, "abcdefxyz")
	for _, pattern := range terms {
		for _, term := range append(terms, termsOf(4, "acex")...) {
			checkMatch(t, pattern, term)
		}
	}
	random := rand.New(rand.NewSource(2))
	for range 3000 {
		// The term is the pattern with a substitution, and perhaps with a leaf changed.
		pattern := someTerm(random, 1+random.Intn(7), "abxyz")
		s := map[byte]tree{}
		for _, v := range "xyz" {
			s[byte(v)] = parse(someTerm(random, 1+random.Intn(4), "abxyz"))
		}
		term := parse(pattern).under(s).String()
		checkMatch(t, pattern, term)
		i := strings.LastIndexAny(term, "abxyz")
		checkMatch(t, pattern, term[:i]+pick(random, "abxyz")+term[i+1:])
	}
}

// P8.1
func TestMatchErrors(t *testing.T) {
	for _, s := range noTerms() {
		for _, pair := range [][2]string{{s, "a"}, {"a", s}, {s, "x"}, {"x", s}, {s, s}} {
			if m, e := rules.Match(pair[0], pair[1]); m != [3]string{} || e != api.ErrSyntax {
				t.Errorf("Match(%.100q, %.100q) = %q, %d", pair[0], pair[1], m, e)
			}
		}
	}
}
