package rules

import (
	"strings"

	"numnah/api"
)

// reader reads a string that should be a term. Its methods panic if it is none.
type reader struct {
	rest  string
	count int // the symbols and variables that it has read
}

func wrong() {
	panic("rules: no term")
}

// readTerm reads a term, and reports whether the string is one.
func readTerm(s string) (t node, ok bool) {
	defer func() {
		if recover() != nil {
			t, ok = nil, false
		}
	}()
	r := &reader{rest: s}
	t = r.term()
	if r.rest != "" {
		wrong()
	}
	return t, true
}

// letter reads a byte.
func (r *reader) letter() byte {
	if r.rest == "" {
		wrong()
	}
	c := r.rest[0]
	r.rest = r.rest[1:]
	return c
}

// expect reads a certain byte.
func (r *reader) expect(c byte) {
	if r.letter() != c {
		wrong()
	}
}

func (r *reader) term() node {
	// Counting while it reads, it never goes deeper than a term can be, however long the string is.
	r.count++
	if r.count > api.MaxTerm {
		wrong()
	}
	c := r.letter()
	if v := strings.IndexByte(variables, c); v >= 0 {
		return variable(v)
	}
	symbol := strings.IndexByte(symbols, c)
	if symbol < 0 {
		wrong()
	}
	return apply(symbol, r.parts(partsOfSymbol(symbol)))
}

// parts reads a number of parts with what stands around them.
func (r *reader) parts(count int) []node {
	if count == 0 {
		return nil
	}
	var list []node
	before := byte('(')
	for range count {
		r.expect(before)
		list = append(list, r.term())
		before = ','
	}
	r.expect(')')
	return list
}
