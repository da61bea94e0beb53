package rules_test

import (
	"math/rand"
	"strings"
	"testing"

	"numnah/api"
	"numnah/rules"
)

// greaterTable has what Greater says of all pairs of terms.
func greaterTable(t *testing.T, precedence string, terms []string) [][]bool {
	t.Helper()
	table := make([][]bool, len(terms))
	for i, s := range terms {
		for _, u := range terms {
			is, e := rules.Greater(precedence, s, u)
			if e != api.OK {
				t.Fatalf("Greater(%s, %s, %s): %d", precedence, s, u, e)
			}
			table[i] = append(table[i], is)
		}
	}
	return table
}

// P8.5: path orders are transitive, and no term is greater than itself.
func TestPathOrdersAreOrders(t *testing.T) {
	terms := append(termsUpTo(3, "abcdefxyz"), termsOf(4, "acex")...)
	for _, p := range []string{"abcdef", "fedcba", "dcfeab"} {
		table := greaterTable(t, p, terms)
		for i := range terms {
			if table[i][i] {
				t.Errorf("%s: %s is greater than itself", p, terms[i])
			}
			for j := range terms {
				for k := range terms {
					if table[i][j] && table[j][k] && !table[i][k] {
						t.Errorf("%s: %s > %s > %s", p, terms[i], terms[j], terms[k])
					}
				}
			}
		}
	}
}

// P8.5: what is greater stays greater with a substitution, and in a larger term.
func TestGreaterStaysGreater(t *testing.T) {
	random := rand.New(rand.NewSource(15))
	all := allPrecedences()
	for count := 0; count < 2000; {
		p := all[random.Intn(len(all))]
		s, u := someTerm(random, 1+random.Intn(8), "abxyz"), someTerm(random, 1+random.Intn(8), "abxyz")
		if is, _ := rules.Greater(p, s, u); !is {
			continue
		}
		count++
		put := strings.NewReplacer("x", someTerm(random, 1+random.Intn(4), "abxyz"), "y", someTerm(random, 1+random.Intn(4), "abxyz"), "z", someTerm(random, 1, "abxyz"))
		around := someTerm(random, 1+random.Intn(9), "a")
		place := strings.LastIndex(around, "a")
		for _, pair := range [][2]string{{put.Replace(s), put.Replace(u)}, {around[:place] + s + around[place+1:], around[:place] + u + around[place+1:]}} {
			if is, e := rules.Greater(p, pair[0], pair[1]); !is || e != api.OK {
				t.Errorf("Greater(%s, %s, %s) = %v, %d, from %s, %s", p, pair[0], pair[1], is, e, s, u)
			}
		}
	}
}

// decreasing are random rules that a reading decreases.
func decreasing(random *rand.Rand, all [][][]int) ([]api.Law, [][]int) {
	reading := all[random.Intn(len(all))]
	var list []api.Law
	for range 200 {
		if l := someLaws(random, 1, 6); len(list) < 6 && decreases(l, reading) {
			list = append(list, l...)
		}
	}
	return list, reading
}

// checkEnds checks that a term has no loop, and that Normal ends if no term on the way is too large and there are not too many.
func checkEnds(t *testing.T, list []api.Law, term string) {
	t.Helper()
	for steps := range 6 {
		if l, e := rules.Loop(list, term, steps); e == api.OK {
			t.Errorf("Loop(%v, %s, %d) = %q, though they end", list, term, steps, l)
		}
	}
	s, n, e := rules.Normal(list, term, 200)
	if e != api.OK {
		return
	}
	if l, e := rules.Next(list, s); e != api.OK || len(l) > 0 {
		t.Errorf("Next(%v, %s) = %q, %d, though it is a normal form", list, s, l, e)
	}
	if u, m, e := rules.Normal(list, s, 0); u != s || m != 0 || e != api.OK {
		t.Errorf("Normal(%v, %s, 0) = %s, %d, %d, after %d steps", list, s, u, m, e, n)
	}
}

// P8.5: if a precedence or a reading proves rules, no term has a loop, and Normal ends.
func TestProvedRulesEnd(t *testing.T) {
	random := rand.New(rand.NewSource(16))
	all := allReadings()
	for i := range 60 {
		list := orientable(random)
		if i%2 == 1 {
			list, _ = decreasing(random, all)
		}
		for _, l := range list {
			checkEnds(t, list, l.Left)
			checkEnds(t, list, "e("+l.Left+",c("+list[0].Left+"))")
		}
		checkEnds(t, list, someTerm(random, 1+random.Intn(20), "abxyz"))
	}
	for _, list := range named() {
		_, e := rules.Orient(list)
		_, err := rules.Reading(list)
		if e != api.OK && err != api.OK {
			continue
		}
		for _, term := range termsUpTo(4, "acefx") {
			checkEnds(t, list, term)
			// These terms are so small that nothing grows too much, nor takes too many steps.
			if _, _, e := rules.Normal(list, term, 200); e != api.OK {
				t.Errorf("Normal(%v, %s) = %d, though they end", list, term, e)
			}
		}
	}
}

// P8.5: a next term in rules that a reading decreases has a smaller value, so that there are at most as many steps as the value says.
func TestNextTermsHaveSmallerValues(t *testing.T) {
	random := rand.New(rand.NewSource(17))
	all := allReadings()
	for range 60 {
		list, reading := decreasing(random, all)
		terms := []string{someTerm(random, 8, "abxyz")}
		for _, l := range list {
			terms = append(terms, l.Left, "d("+l.Left+")", "f(y,"+l.Left+")")
		}
		for _, term := range terms {
			value, e := rules.Value(reading, term)
			if e != api.OK {
				t.Fatalf("Value(%v, %s) = %d", reading, term, e)
			}
			next, _ := rules.Next(list, term)
			for _, s := range next {
				smaller, e := rules.Value(reading, s)
				if e == api.OK && (smaller[0] >= value[0] || smaller[1] > value[1] || smaller[2] > value[2] || smaller[3] > value[3]) {
					t.Errorf("Value(%v, %s) = %v, and %v of the next term %s", reading, term, value, smaller, s)
				}
			}
			if _, n, e := rules.Normal(list, term, 200); e == api.OK && n > value[0] {
				t.Errorf("Normal(%v, %s): %d steps, and the value is %d", list, term, n, value[0])
			}
		}
	}
}

// P8.5: a normal form has no next term, and what has one is no normal form.
func TestNormalForms(t *testing.T) {
	for _, list := range named() {
		for _, term := range termsUpTo(4, "acefx") {
			next, e := rules.Next(list, term)
			s, n, err := rules.Normal(list, term, 0)
			if is := len(next) == 0; e != api.OK || is != (err == api.OK) || is && (s != term || n != 0) {
				t.Errorf("Next(%v, %s) = %q, %d, and Normal = %s, %d, %d", list, term, next, e, s, n, err)
			}
		}
	}
}

// The chapter's examples.
func TestExamples(t *testing.T) {
	swap := laws("e(x,y)>e(y,x)")
	for _, terms := range [][]string{{"e(a,b)", "e(b,a)", "e(a,b)"}, {"e(x,y)", "e(y,x)"}} {
		if e := rules.IsLoop(swap, terms); e != api.OK {
			t.Errorf("IsLoop(%q) = %d", terms, e)
		}
	}
	if p, e := rules.Orient(laws("c(d(x))>d(c(x))")); p != "abcdef" || e != api.OK {
		t.Errorf("Orient = %s, %d", p, e)
	}
	reading := read(0, 0, 1, 1, 0, 1, 0, 1, 1, 0, 1, 1)
	if e := rules.Decreases(laws("c(x)>d(x)"), reading); e != api.OK {
		t.Errorf("Decreases = %d", e)
	}
	if found, e := rules.Reading(laws("c(x)>d(x)")); e != api.OK || rules.Decreases(laws("c(x)>d(x)"), found) != api.OK {
		t.Errorf("Reading = %v, %d", found, e)
	}
}
