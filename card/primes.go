package card

import (
	"slices"
	"strings"

	"numnah/api"
)

// implicants are all implicants, as the keys of a map.
func (f table) implicants() map[cube]bool {
	found := map[cube]bool{}
	for fixed := range f.size() {
		for values := range fixed + 1 {
			if values&^fixed != 0 {
				continue
			}
			c := cube{fixed: fixed, values: values}
			points := c.points(f.vars)
			if points&f.zeros == 0 && points&f.ones != 0 {
				found[c] = true
			}
		}
	}
	return found
}

// primes are all prime implicants, in ascending order of their texts. It is enough to free one variable: every cube between an implicant and a greater one is an implicant.
func (f table) primes() []cube {
	implicants := f.implicants()
	var found []cube
	for c := range implicants {
		prime := true
		for i := range f.vars {
			if wider := c.without(i); wider != c && implicants[wider] {
				prime = false
			}
		}
		if prime {
			found = append(found, c)
		}
	}
	slices.SortFunc(found, func(a, b cube) int {
		return strings.Compare(a.text(f.vars), b.text(f.vars))
	})
	return found
}

// Primes returns all prime implicants, in ascending order as strings.
func Primes(function string) ([]string, api.Errno) {
	f, ok := readTable(function)
	if !ok {
		return nil, api.ErrArg
	}
	return texts(f.primes(), f.vars), api.OK
}

// Essential returns the primes that contain a point with the value 1 that no other prime contains, in ascending order as strings.
func Essential(function string) ([]string, api.Errno) {
	f, ok := readTable(function)
	if !ok {
		return nil, api.ErrArg
	}
	primes := f.primes()
	sets := pointSets(primes, f.vars)
	needed := f.ones & inOneOnly(sets)
	var found []cube
	for i, c := range primes {
		if sets[i]&needed != 0 {
			found = append(found, c)
		}
	}
	return texts(found, f.vars), api.OK
}
