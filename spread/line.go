package spread

import (
	"numnah/api"
	"numnah/fraction"
)

// line are points on a line that have been read.
type line struct {
	scale, size int
	below       [api.MaxScale + 1]int // the count below each place
}

// isLine reports whether these are points on a line.
func isLine(scale int, points []int) bool {
	if scale < 1 || scale > api.MaxScale || len(points) < 1 || len(points) > api.MaxPoints {
		return false
	}
	for _, x := range points {
		if x < 0 || x >= scale {
			return false
		}
	}
	return true
}

// readLine reads points on a line and reports whether they are some.
func readLine(scale int, points []int) (*line, bool) {
	if !isLine(scale, points) {
		return nil, false
	}
	l := &line{scale: scale, size: len(points)}
	for _, x := range points {
		l.below[x+1]++
	}
	for t := range scale {
		l.below[t+1] += l.below[t]
	}
	return l, true
}

// excess is the numerator of what a count at t is too great by.
func (l *line) excess(count, t int) int {
	return count*l.scale - t*l.size
}

// fraction is the excess with the numerator.
func (l *line) fraction(excess int) api.Frac {
	return fraction.Lowest(excess, l.size*l.scale)
}

// at visits both counts at t, and the count below alone at the end of the line.
func (l *line) at(t int) excesses {
	return func(yield func(witness, int) bool) {
		if !yield(witness{t: t, open: true}, l.excess(l.below[t], t)) || t == l.scale {
			return
		}
		yield(witness{t: t}, l.excess(l.below[t+1], t))
	}
}

// everywhere visits the counts at all places.
func (l *line) everywhere() excesses {
	return func(yield func(witness, int) bool) {
		for t := range l.scale + 1 {
			for w, excess := range l.at(t) {
				if !yield(w, excess) {
					return
				}
			}
		}
	}
}

// Line returns the discrepancy, the smallest t with this deviation, and whether it comes from the count below.
func Line(scale int, points []int) (api.Frac, int, bool, api.Errno) {
	l, ok := readLine(scale, points)
	if !ok {
		return api.Frac{}, 0, false, api.ErrArg
	}
	w, deviation := worst(l.everywhere())
	return l.fraction(deviation), w.t, w.open, api.OK
}

// Deviation returns the deviation at t.
func Deviation(scale int, points []int, t int) (api.Frac, api.Errno) {
	l, ok := readLine(scale, points)
	if !ok || t < 0 || t > scale {
		return api.Frac{}, api.ErrArg
	}
	_, deviation := worst(l.at(t))
	return l.fraction(deviation), api.OK
}

// Interval returns the greatest absolute value of what the number of points from s to before t is too great by, and the lexicographically smallest s, t that give it.
func Interval(scale int, points []int) (api.Frac, [2]int, api.Errno) {
	l, ok := readLine(scale, points)
	if !ok {
		return api.Frac{}, [2]int{}, api.ErrArg
	}
	// What the number from s to before t is too great by is what the count below t is, less what that below s is. So it is greatest between a place where the latter is greatest and one where it is smallest.
	first := map[api.Frac]int{}
	low, high := fraction.Whole(0), fraction.Whole(0)
	for t := range scale + 1 {
		f := l.fraction(l.excess(l.below[t], t))
		if _, seen := first[f]; !seen {
			first[f] = t
		}
		if fraction.Compare(f, low) < 0 {
			low = f
		}
		if fraction.Compare(high, f) < 0 {
			high = f
		}
	}
	if low == high {
		return fraction.Whole(0), [2]int{0, 1}, api.OK
	}
	s, t := first[low], first[high]
	return fraction.Difference(high, low), [2]int{min(s, t), max(s, t)}, api.OK
}

// Best returns the smallest discrepancy of n points on a line, and n points with the scale 2n that have it.
func Best(n int) (api.Frac, []int, api.Errno) {
	if n < 1 || n > api.MaxPoints {
		return api.Frac{}, nil, api.ErrArg
	}
	// The count below a point and the count up to it differ by at least one of n points, so one of them is off by half of that; in the middles of n equal parts none is off by more.
	points := make([]int, n)
	for i := range points {
		points[i] = 2*i + 1
	}
	return api.Frac{Num: 1, Den: 2 * n}, points, api.OK
}
