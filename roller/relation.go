package roller

import "numnah/api"

// set tells which numbers are in it.
type set [api.MaxRollers]bool

// relation tells for each number to which ones it is related.
type relation [api.MaxRollers]set

// steps are the steps from each number.
func (m matrix) steps() relation {
	var steps relation
	for i := range m.size {
		for j := range m.size {
			steps[i][j] = m.at[i][j] > 0
		}
	}
	return steps
}

// leads tells where each number leads. A walk of up to twice the length is two walks, so the relation is put after itself until it stays.
func (m matrix) leads() relation {
	leads := m.steps()
	for i := range m.size {
		leads[i][i] = true
	}
	for {
		longer := leads.then(leads)
		if longer == leads {
			return leads
		}
		leads = longer
	}
}

// then relates two numbers if the first one is related to a number that the next relation relates to the second one.
func (r relation) then(next relation) relation {
	var both relation
	for i := range r {
		for m := range next {
			if !r[i][m] {
				continue
			}
			for j, related := range next[m] {
				both[i][j] = both[i][j] || related
			}
		}
	}
	return both
}

// into are the numbers that are related to one of the set.
func (r relation) into(s set) set {
	var from set
	for i := range r {
		for j, in := range s {
			from[i] = from[i] || in && r[i][j]
		}
	}
	return from
}

// everything relates all numbers of a size.
func everything(size int) relation {
	var all relation
	for i := range size {
		for j := range size {
			all[i][j] = true
		}
	}
	return all
}
