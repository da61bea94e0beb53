package rules

import "numnah/api"

// substitution has the term of each variable, nil for those that have none yet.
type substitution [len(variables)]node

// fit gives terms to variables that have none so that the pattern becomes the term, and reports whether that can be.
func (s *substitution) fit(pattern, t node) bool {
	switch p := pattern.(type) {
	case variable:
		if s[p] == nil {
			s[p] = t
		}
		return s[p].text() == t.text()
	case application:
		a, ok := t.(application)
		return ok && a.symbol == p.symbol && s.fitAll(p.parts, a.parts)
	}
	return false
}

func (s *substitution) fitAll(patterns, terms []node) bool {
	for i, p := range patterns {
		if !s.fit(p, terms[i]) {
			return false
		}
	}
	return true
}

// in is a term with the substitution.
func (s *substitution) in(t node) node {
	switch t := t.(type) {
	case variable:
		return s[t]
	case application:
		var parts []node
		for _, p := range t.parts {
			parts = append(parts, s.in(p))
		}
		return apply(t.symbol, parts)
	}
	return nil
}

// hasInstance reports whether a subterm of a term is the pattern with a substitution.
func hasInstance(t, pattern node) bool {
	for sub := range subterms(t) {
		var s substitution
		if s.fit(pattern, sub) {
			return true
		}
	}
	return false
}

// Match returns the terms that a substitution gives to the variables so that the pattern becomes the term.
func Match(pattern, term string) ([3]string, api.Errno) {
	var terms [3]string
	p, ok := readTerm(pattern)
	if !ok {
		return terms, api.ErrSyntax
	}
	t, ok := readTerm(term)
	if !ok {
		return terms, api.ErrSyntax
	}
	var s substitution
	if !s.fit(p, t) {
		return terms, api.ErrNone
	}
	for _, v := range variablesOf(p) {
		terms[v] = s[v].text()
	}
	return terms, api.OK
}
