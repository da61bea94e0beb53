package sample

import "numnah/api"

// double is a double plan.
type double struct {
	n1, c1, r1, n2, c2 int
}

// readDouble reads a lot and a double plan, and reports whether they are a lot and a plan for it.
func readDouble(lot int, plan [5]int) (*pieces, double, bool) {
	p, ok := readLot(lot)
	d := double{plan[0], plan[1], plan[2], plan[3], plan[4]}
	if !ok || !d.isFor(lot) {
		return nil, double{}, false
	}
	return p, d, true
}

// isFor reports whether a double plan is one for a lot of the size. Each number is bounded before anything is added to it, since it may be any int.
func (d double) isFor(size int) bool {
	if d.n1 < 1 || d.n1 > size || d.n2 < 1 || d.n2 > size-d.n1 {
		return false
	}
	if d.c1 < 0 || d.c1 > d.n1 || d.r1 <= d.c1+1 || d.r1 > d.n1+1 {
		return false
	}
	return d.c2 >= d.r1-1 && d.c2 < d.n1+d.n2
}

// course is one that does what the double plan does: it can end after the first n1 pieces and after all, and nowhere else.
func (d double) course() api.Course {
	length := d.n1 + d.n2
	var c api.Course
	for range length {
		c.Accept = append(c.Accept, -1)
		c.Reject = append(c.Reject, length+1)
	}
	c.Accept[d.n1-1], c.Reject[d.n1-1] = d.c1, d.r1
	c.Accept[length-1], c.Reject[length-1] = d.c2, d.c2+1
	return c
}

// Double returns the chance that a double plan accepts, and the mean number of pieces examined.
func Double(lot, bad int, plan [5]int) (api.Frac, api.Frac, api.Errno) {
	p, d, ok := readDouble(lot, plan)
	if !ok || !p.has(bad) {
		return api.Frac{}, api.Frac{}, api.ErrArg
	}
	chance, mean := p.outcome(bad, d.course())
	return chance, mean, api.OK
}

// Merge returns a course that does what a double plan does.
func Merge(lot int, plan [5]int) (api.Course, api.Errno) {
	_, d, ok := readDouble(lot, plan)
	if !ok {
		return api.Course{}, api.ErrArg
	}
	return d.course(), api.OK
}
