package rules

import (
	"cmp"
	"slices"

	"numnah/api"
)

// maxLoop is the greatest number of terms of a loop that is checked.
const maxLoop = 20

// reached are the terms that can be reached from a term.
type reached struct {
	laws   []law
	terms  []node            // in the order of Reach
	before map[string]string // by the text of each term, that of the one before it on a shortest way; the empty string for the first one
}

// reach finds what can be reached by at most a number of steps. It reports whether this is within the limits.
func reach(laws []law, first node, steps int) (*reached, bool) {
	r := &reached{laws, []node{first}, map[string]string{first.text(): ""}}
	latest := r.terms
	for range steps {
		end := len(r.terms)
		for _, t := range latest {
			if !r.add(t) {
				return nil, false
			}
		}
		latest = r.terms[end:]
		slices.SortFunc(latest, func(s, t node) int { return cmp.Compare(s.text(), t.text()) })
	}
	return r, true
}

// add adds the next terms of a term, and reports whether all is within the limits.
func (r *reached) add(t node) bool {
	for _, next := range nextOf(r.laws, t) {
		if next.size() > api.MaxTerm {
			return false
		}
		if _, ok := r.before[next.text()]; !ok {
			r.before[next.text()] = t.text()
			r.terms = append(r.terms, next)
		}
	}
	return len(r.terms) <= api.MaxReach
}

// way is a shortest way to a term.
func (r *reached) way(t node) []string {
	var texts []string
	for text := t.text(); text != ""; text = r.before[text] {
		texts = append(texts, text)
	}
	slices.Reverse(texts)
	return texts
}

// loop is a shortest loop of at most a number of steps, or nil if there is none.
func (r *reached) loop(steps int) []string {
	for _, t := range r.terms {
		way := r.way(t)
		if len(way) > steps {
			break
		}
		// The next terms are tried once more, not only what has been reached: a loop may come back to the first term.
		for _, next := range nextOf(r.laws, t) {
			if hasInstance(next, r.terms[0]) {
				return append(way, next.text())
			}
		}
	}
	return nil
}

// readReached reads the arguments of Reach and Loop, and finds what can be reached.
func readReached(rules []api.Law, term string, steps int) (*reached, api.Errno) {
	laws, t, err := readLawsAndTerm(rules, term)
	if err != api.OK {
		return nil, err
	}
	if steps < 0 || steps > api.MaxDepth {
		return nil, api.ErrArg
	}
	r, ok := reach(laws, t, steps)
	if !ok {
		return nil, api.ErrFull
	}
	return r, api.OK
}

// Reach returns all terms that can be reached from a term by at most a number of steps, those with fewer steps first.
func Reach(rules []api.Law, term string, steps int) ([]string, api.Errno) {
	r, err := readReached(rules, term, steps)
	if err != api.OK {
		return nil, err
	}
	var texts []string
	for _, t := range r.terms {
		texts = append(texts, t.text())
	}
	return texts, api.OK
}

// Loop returns a loop that begins with a term, with the smallest number of terms.
func Loop(rules []api.Law, term string, steps int) ([]string, api.Errno) {
	r, err := readReached(rules, term, steps)
	if err != api.OK {
		return nil, err
	}
	loop := r.loop(steps)
	if loop == nil {
		return nil, api.ErrNone
	}
	return loop, api.OK
}

// isNext reports whether a term is a next term of another one.
func isNext(laws []law, t, other node) bool {
	return slices.ContainsFunc(nextOf(laws, other), func(next node) bool { return next.text() == t.text() })
}

func isLoop(laws []law, list []node) bool {
	if len(list) < 2 {
		return false
	}
	for i := 1; i < len(list); i++ {
		if !isNext(laws, list[i], list[i-1]) {
			return false
		}
	}
	return hasInstance(list[len(list)-1], list[0])
}

// IsLoop returns OK if terms are a loop.
func IsLoop(rules []api.Law, terms []string) api.Errno {
	laws, ok := readLaws(rules)
	if !ok {
		return api.ErrArg
	}
	var list []node
	for _, s := range terms {
		t, ok := readTerm(s)
		if !ok {
			return api.ErrSyntax
		}
		list = append(list, t)
	}
	if len(list) > maxLoop {
		return api.ErrArg
	}
	if !isLoop(laws, list) {
		return api.ErrAnswer
	}
	return api.OK
}
