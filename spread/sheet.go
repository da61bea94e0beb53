package spread

import (
	"numnah/api"
	"numnah/fraction"
)

// sheet are points on a sheet that have been read.
type sheet struct {
	scale, size int
	below       [api.MaxSide + 1][api.MaxSide + 1]int // the open count at each s, t, and 0 where s or t is 0
}

// isSheet reports whether these are points on a sheet.
func isSheet(scale int, points [][2]int) bool {
	if scale < 1 || scale > api.MaxSide || len(points) < 1 || len(points) > api.MaxPoints {
		return false
	}
	for _, p := range points {
		for _, x := range p {
			if x < 0 || x >= scale {
				return false
			}
		}
	}
	return true
}

// readSheet reads points on a sheet and reports whether they are some.
func readSheet(scale int, points [][2]int) (*sheet, bool) {
	if !isSheet(scale, points) {
		return nil, false
	}
	a := &sheet{scale: scale, size: len(points)}
	for _, p := range points {
		a.below[p[0]+1][p[1]+1]++
	}
	for s := range scale {
		for t := range scale {
			a.below[s+1][t+1] += a.below[s][t+1] + a.below[s+1][t] - a.below[s][t]
		}
	}
	return a, true
}

// excess is the numerator of what a count at s, t is too great by.
func (a *sheet) excess(count, s, t int) int {
	return count*a.scale*a.scale - s*t*a.size
}

// at visits the open count and the closed count at s, t, each where there is one.
func (a *sheet) at(s, t int) excesses {
	return func(yield func(witness, int) bool) {
		if s > 0 && t > 0 && !yield(witness{s: s, t: t, open: true}, a.excess(a.below[s][t], s, t)) {
			return
		}
		if s < a.scale && t < a.scale {
			yield(witness{s: s, t: t}, a.excess(a.below[s+1][t+1], s, t))
		}
	}
}

// everywhere visits the counts at all s, t.
func (a *sheet) everywhere() excesses {
	return func(yield func(witness, int) bool) {
		for s := range a.scale + 1 {
			for t := range a.scale + 1 {
				for w, excess := range a.at(s, t) {
					if !yield(w, excess) {
						return
					}
				}
			}
		}
	}
}

// Sheet returns the discrepancy, the lexicographically smallest s, t that gives it, and whether it comes from the open count.
func Sheet(scale int, points [][2]int) (api.Frac, [2]int, bool, api.Errno) {
	a, ok := readSheet(scale, points)
	if !ok {
		return api.Frac{}, [2]int{}, false, api.ErrArg
	}
	w, deviation := worst(a.everywhere())
	return fraction.Lowest(deviation, a.size*scale*scale), [2]int{w.s, w.t}, w.open, api.OK
}
