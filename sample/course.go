package sample

import (
	"iter"

	"numnah/api"
)

// boundary is the number of bad pieces up to which a course accepts, and that from which on it rejects.
type boundary struct {
	accept, reject int
}

// boundaries visits those of a course whose lists have the same length, each with the number of pieces after which it stands.
func boundaries(c api.Course) iter.Seq2[int, boundary] {
	return func(yield func(int, boundary) bool) {
		for i := range c.Accept {
			if !yield(i+1, boundary{c.Accept[i], c.Reject[i]}) {
				return
			}
		}
	}
}

// isCourse reports whether a course is one for the lot.
func (p *pieces) isCourse(c api.Course) bool {
	length := len(c.Accept)
	if length < 1 || length > p.size || len(c.Reject) != length {
		return false
	}
	for i, b := range boundaries(c) {
		if b.accept < -1 || b.accept >= b.reject || b.reject > length+1 {
			return false
		}
		if i == length && b.reject != b.accept+1 {
			return false
		}
	}
	return true
}

// ends holds at each number of pieces the number of ways in which a course accepts, and rejects, after exactly so many.
type ends struct {
	accepted, rejected [api.MaxLot + 1]int
}

// ends follows a course for the lot to all its ends.
func (p *pieces) ends(bad int, c api.Course) ends {
	var e ends
	// At k, the number of orders of the pieces so far with k bad ones after which the course has not ended.
	var open [api.MaxLot + 1]int
	open[0] = 1
	for i, b := range boundaries(c) {
		for k := i; k > 0; k-- {
			open[k] += open[k-1]
		}
		for k := range i + 1 {
			ways := open[k] * p.behind(i, bad-k)
			switch {
			case k <= b.accept:
				e.accepted[i] += ways
				open[k] = 0
			case k >= b.reject:
				e.rejected[i] += ways
				open[k] = 0
			}
		}
	}
	return e
}

// outcome is the chance that a course accepts, and the mean number of pieces that it examines.
func (p *pieces) outcome(bad int, c api.Course) (api.Frac, api.Frac) {
	e := p.ends(bad, c)
	accepted, examined := 0, 0
	for i := range p.size + 1 {
		accepted += e.accepted[i]
		examined += i * (e.accepted[i] + e.rejected[i])
	}
	return p.share(accepted, bad), p.share(examined, bad)
}

// Fits returns OK if c is a course for the lot.
func Fits(lot int, c api.Course) api.Errno {
	p, ok := readLot(lot)
	if !ok || !p.isCourse(c) {
		return api.ErrArg
	}
	return api.OK
}

// Course returns the chance that a course accepts, and the mean number of pieces examined.
func Course(lot, bad int, c api.Course) (api.Frac, api.Frac, api.Errno) {
	p, ok := readBad(lot, bad)
	if !ok || !p.isCourse(c) {
		return api.Frac{}, api.Frac{}, api.ErrArg
	}
	chance, mean := p.outcome(bad, c)
	return chance, mean, api.OK
}

// Chances returns, for each number of pieces from 1 to the length of a course, the chance that it accepts after exactly so many, and the chance that it rejects.
func Chances(lot, bad int, c api.Course) ([]api.Frac, []api.Frac, api.Errno) {
	p, ok := readBad(lot, bad)
	if !ok || !p.isCourse(c) {
		return nil, nil, api.ErrArg
	}
	e := p.ends(bad, c)
	var accepts, rejects []api.Frac
	for i := range boundaries(c) {
		accepts = append(accepts, p.share(e.accepted[i], bad))
		rejects = append(rejects, p.share(e.rejected[i], bad))
	}
	return accepts, rejects, api.OK
}

// Curtail returns the course that ends as soon as it is sure what a single plan does.
func Curtail(lot, n, c int) (api.Course, api.Errno) {
	if _, _, ok := readSingle(lot, n, c); !ok {
		return api.Course{}, api.ErrArg
	}
	var course api.Course
	for i := 1; i <= n; i++ {
		course.Accept = append(course.Accept, max(-1, c-(n-i)))
		course.Reject = append(course.Reject, c+1)
	}
	return course, api.OK
}
