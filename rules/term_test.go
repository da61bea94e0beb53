package rules_test

import (
	"math/rand"
	"strings"
	"testing"

	"numnah/api"
	"numnah/rules"
)

func checkSize(t *testing.T, term string) {
	t.Helper()
	n, e := rules.Size(term)
	if isTerm(term) && (e != api.OK || n != size(term)) || !isTerm(term) && (e != api.ErrSyntax || n != 0) {
		t.Errorf("Size(%.300q) = %d, %d", term, n, e)
	}
}

// P8.1
func TestSizeByHand(t *testing.T) {
	for term, want := range map[string]int{"x": 1, "y": 1, "z": 1, "a": 1, "b": 1, "c(a)": 2, "d(z)": 2, "e(a,b)": 3, "f(x,x)": 3, "f(e(c(x),y),d(b))": 7} {
		if n, e := rules.Size(term); n != want || e != api.OK {
			t.Errorf("Size(%s) = %d, %d", term, n, e)
		}
	}
}

// P8.1: strings that are no terms.
func TestNoTerms(t *testing.T) {
	for _, s := range noTerms() {
		if n, e := rules.Size(s); n != 0 || e != api.ErrSyntax {
			t.Errorf("Size(%.300q) = %d, %d", s, n, e)
		}
	}
}

// noTerms are strings that are no terms: empty, with other letters or blanks, with another number of parts, with brackets or commas missing or too many, with something behind, and too large ones.
func noTerms() []string {
	return []string{
		"", " ", "g", "w", "A", "X", "0", "t", "\x00", "\xff", "é", "(", ")", ",", "()", "(a)", "(x)",
		" a", "a ", "c( a)", "c(a )", "c (a)", "e(a, b)", "e(a ,b)", "x\n", "\tx", "c(g)", "e(a,A)", "c(é)",
		"a()", "a(b)", "b(x,y)", "x()", "x(a)", "c", "d", "c()", "c(a,b)", "d(x,y)", "e", "f", "e()", "e(a)", "f(a,b,x)", "e(a,b,a,b)", "e(,)", "e(a,)", "e(,a)", "c(,)", "c(,a)", "c(a,)",
		"c(a", "ca)", "ca", "c(a))", "c((a))", "(c(a))", "e(a,b", "ea,b)", "e(ab)", "e(a,,b)", "e(a,b))", "e((a),b)", "e(a(,b)", "e((a,b))", "e(c(a,b))", "e(a;b)", "c[a]", "c{a}", "e(a)(b)",
		"aa", "ab", "xa", "xx", "a,b", "a,", ",a", "c(a)b", "c(a)c(a)", "c(a),", "c(a),a", "e(a,b)x", "a)", "x(",
		chain(60, "a"), strings.Repeat("c(", 1000000), strings.Repeat("e(", 1000000) + "a", strings.Repeat("e(a,", 100000), strings.Repeat("a", 1000000), strings.Repeat("(", 1000000), chain(1000000, "x"), comb(31), "e(" + chain(28, "a") + "," + chain(30, "b") + ")",
	}
}

// chain is c(c(..)) around a term.
func chain(length int, term string) string {
	return strings.Repeat("c(", length) + term + strings.Repeat(")", length)
}

// comb is a term with this number of a.
func comb(count int) string {
	return strings.Repeat("e(a,", count-1) + "a" + strings.Repeat(")", count-1)
}

// P8.1: the largest terms, and those of one more.
func TestLargestTerms(t *testing.T) {
	for _, term := range []string{chain(59, "a"), chain(59, "x"), "e(" + chain(28, "a") + "," + chain(29, "b") + ")", "c(" + comb(30) + ")", "c(" + strings.ReplaceAll(comb(30), "a", "z") + ")"} {
		if n, e := rules.Size(term); n != 60 || e != api.OK {
			t.Errorf("Size(%s) = %d, %d", term, n, e)
		}
		for _, larger := range []string{"c(" + term + ")", strings.Replace(term, "(", "(c(", 1) + ")"} {
			if n, e := rules.Size(larger); n != 0 || e != api.ErrSyntax {
				t.Errorf("Size(%s) = %d, %d", larger, n, e)
			}
		}
	}
}

// P8.1: all short strings, all small terms, and what they become if a byte is left out, put in or exchanged.
func TestSize(t *testing.T) {
	strs := []string{""}
	for range 4 {
		var longer []string
		for _, s := range strs {
			for _, c := range "abcdefxyz(), " {
				checkSize(t, s+string(c))
				longer = append(longer, s+string(c))
			}
		}
		strs = longer
	}
	for _, term := range append(termsUpTo(4, "acefx"), largeTerms(1, 50)...) {
		checkSize(t, term)
		for i := range len(term) + 1 {
			for _, c := range "ace(,)" {
				checkSize(t, term[:i]+string(c)+term[i:])
				if i < len(term) {
					checkSize(t, term[:i]+string(c)+term[i+1:])
					checkSize(t, term[:i]+term[i+1:])
				}
			}
		}
	}
}

// largeTerms are random terms of sizes up to the greatest one.
func largeTerms(seed int64, count int) []string {
	random := rand.New(rand.NewSource(seed))
	var list []string
	for range count {
		list = append(list, someTerm(random, 1+random.Intn(60), "abxyz"))
	}
	return list
}
