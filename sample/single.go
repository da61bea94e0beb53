package sample

import "numnah/api"

// single is a single plan.
type single struct {
	n, c int
}

// readSingle reads a lot and a single plan, and reports whether they are a lot and a plan for it.
func readSingle(lot, n, c int) (*pieces, single, bool) {
	p, ok := readLot(lot)
	if !ok || c < 0 || c >= n || n > lot {
		return nil, single{}, false
	}
	return p, single{n, c}, true
}

// chance is the chance that a single plan accepts.
func (p *pieces) chance(bad int, s single) api.Frac {
	sum := 0
	for k := range s.c + 1 {
		sum += p.ways[s.n][k] * p.behind(s.n, bad-k)
	}
	return p.share(sum, bad)
}

// left is the sum of the bad pieces behind the first n over all ways in which a single plan accepts, divided by the number of all ways.
func (p *pieces) left(bad int, s single) api.Frac {
	sum := 0
	for k := range s.c + 1 {
		sum += p.ways[s.n][k] * p.behind(s.n, bad-k) * (bad - k)
	}
	return p.share(sum, bad)
}

// Single returns the chance that a single plan accepts.
func Single(lot, bad, n, c int) (api.Frac, api.Errno) {
	p, s, ok := readSingle(lot, n, c)
	if !ok || !p.has(bad) {
		return api.Frac{}, api.ErrArg
	}
	return p.chance(bad, s), api.OK
}

// Curve returns the chance that a single plan accepts for 0, 1, ... to lot bad pieces.
func Curve(lot, n, c int) ([]api.Frac, api.Errno) {
	p, s, ok := readSingle(lot, n, c)
	if !ok {
		return nil, api.ErrArg
	}
	curve := make([]api.Frac, p.size+1)
	for bad := range curve {
		curve[bad] = p.chance(bad, s)
	}
	return curve, api.OK
}

// Left returns the greatest mean number of bad pieces that a single plan accepts unseen, and the smallest number of bad pieces that gives it.
func Left(lot, n, c int) (api.Frac, int, api.Errno) {
	p, s, ok := readSingle(lot, n, c)
	if !ok {
		return api.Frac{}, 0, api.ErrArg
	}
	greatest, first := p.left(0, s), 0
	for bad := range p.size + 1 {
		if f := p.left(bad, s); less(greatest, f) {
			greatest, first = f, bad
		}
	}
	return greatest, first, api.OK
}

// Plan returns the single plan with the smallest n, and for it the smallest c, that accepts with at least the chance least if good pieces are bad, and with at most the chance most if bad pieces are bad.
func Plan(lot, good, bad int, least, most api.Frac) (int, int, api.Errno) {
	p, ok := readBad(lot, bad)
	if !ok || !p.has(good) || !isChance(least) || !isChance(most) {
		return 0, 0, api.ErrArg
	}
	var found single
search:
	for n := 1; n <= lot; n++ {
		for c := range n {
			s := single{n, c}
			if less(most, p.chance(bad, s)) {
				// A greater c accepts no less often.
				continue search
			}
			if !less(p.chance(good, s), least) {
				found = s
				break search
			}
		}
	}
	if found == (single{}) {
		return 0, 0, api.ErrNone
	}
	return found.n, found.c, api.OK
}
