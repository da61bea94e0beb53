package spread

import (
	"slices"

	"numnah/api"
)

// Gaps returns the different distances, in ascending order, from each point to the next one on the circle.
func Gaps(scale int, points []int) ([]int, api.Errno) {
	if !isLine(scale, points) {
		return nil, api.ErrArg
	}
	places := slices.Compact(slices.Sorted(slices.Values(points)))
	gaps := make([]int, len(places))
	before := places[len(places)-1] - scale
	for i, place := range places {
		gaps[i] = place - before
		before = place
	}
	slices.Sort(gaps)
	return slices.Compact(gaps), api.OK
}

// Move returns the points, each plus by, modulo the scale, in their order.
func Move(scale int, points []int, by int) ([]int, api.Errno) {
	if !isLine(scale, points) {
		return nil, api.ErrArg
	}
	forward := by%scale + scale // not negative
	moved := make([]int, len(points))
	for i, x := range points {
		moved[i] = (x + forward) % scale
	}
	return moved, api.OK
}
