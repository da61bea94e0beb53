package card

import "math/bits"

// pointSet is a set of points: the binary digit p is 1 if the point p is in it.
type pointSet uint32

func single(point int) pointSet {
	return 1 << point
}

func (s pointSet) has(point int) bool {
	return s&single(point) != 0
}

func (s pointSet) size() int {
	return bits.OnesCount32(uint32(s))
}

// least is the smallest point of a set that is not empty.
func (s pointSet) least() int {
	return bits.TrailingZeros32(uint32(s))
}

// list holds the points in ascending order.
func (s pointSet) list() []int {
	points := make([]int, 0, s.size())
	for ; s != 0; s &= s - 1 {
		points = append(points, s.least())
	}
	return points
}
