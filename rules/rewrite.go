package rules

import (
	"slices"

	"numnah/api"
)

// replaced is a term with another part at a place.
func (a application) replaced(i int, part node) node {
	parts := slices.Clone(a.parts)
	parts[i] = part
	return apply(a.symbol, parts)
}

// rewrite rewrites a term as a whole by a rule, and reports whether the rule fits.
func (l law) rewrite(t node) (node, bool) {
	var s substitution
	if !s.fit(l.left, t) {
		return nil, false
	}
	return s.in(l.right), true
}

// nextOf are the next terms of a term, some of them perhaps several times.
func nextOf(laws []law, t node) []node {
	var list []node
	for _, l := range laws {
		if next, ok := l.rewrite(t); ok {
			list = append(list, next)
		}
	}
	if a, ok := t.(application); ok {
		for i, part := range a.parts {
			for _, next := range nextOf(laws, part) {
				list = append(list, a.replaced(i, next))
			}
		}
	}
	return list
}

// innermost rewrites a term at the first of the subterms that can be rewritten and have no part, nor part of a part, and so on, that can. It reports whether there is one.
func innermost(laws []law, t node) (node, bool) {
	if a, ok := t.(application); ok {
		for i, part := range a.parts {
			if next, ok := innermost(laws, part); ok {
				return a.replaced(i, next), true
			}
		}
	}
	for _, l := range laws {
		if next, ok := l.rewrite(t); ok {
			return next, true
		}
	}
	return nil, false
}

// Next returns the next terms of a term.
func Next(rules []api.Law, term string) ([]string, api.Errno) {
	laws, t, err := readLawsAndTerm(rules, term)
	if err != api.OK {
		return nil, err
	}
	var texts []string
	for _, next := range nextOf(laws, t) {
		if next.size() > api.MaxTerm {
			return nil, api.ErrFull
		}
		texts = append(texts, next.text())
	}
	slices.Sort(texts)
	return slices.Compact(texts), api.OK
}

// Normal rewrites a term, innermost first, until it can't be rewritten, and returns this term and the number of steps.
func Normal(rules []api.Law, term string, most int) (string, int, api.Errno) {
	laws, t, err := readLawsAndTerm(rules, term)
	if err != api.OK {
		return "", 0, err
	}
	if most < 0 || most > api.MaxSteps {
		return "", 0, api.ErrArg
	}
	for steps := 0; ; steps++ {
		next, ok := innermost(laws, t)
		if !ok {
			return t.text(), steps, api.OK
		}
		if steps == most || next.size() > api.MaxTerm {
			return "", 0, api.ErrFull
		}
		t = next
	}
}
