package roller

import (
	"numnah/api"
	"numnah/fraction"
)

// classed is a matrix with its classes. A class is known by its smallest number.
type classed struct {
	matrix
	leads   relation
	classOf [api.MaxRollers]int
	members map[int][]int // of each class, in ascending order
}

// readClassed reads a matrix, finds its classes, and reports whether the lists are a matrix.
func readClassed(lists [][]int) (classed, bool) {
	m, ok := readMatrix(lists)
	if !ok {
		return classed{}, false
	}
	c := classed{matrix: m, leads: m.leads(), members: map[int][]int{}}
	for i := range c.size {
		for j := range c.size {
			if c.together(i, j) {
				c.classOf[i] = j
				break
			}
		}
		class := c.classOf[i]
		c.members[class] = append(c.members[class], i)
	}
	return c, true
}

// together reports whether two numbers are in one class.
func (c classed) together(i, j int) bool {
	return c.leads[i][j] && c.leads[j][i]
}

// leaves reports whether i leads to j, which is in another class.
func (c classed) leaves(i, j int) bool {
	return c.leads[i][j] && !c.leads[j][i]
}

// depths are the lengths of the shortest walks from a number to those of its class, and -1 for all others.
func (c classed) depths(from int) [api.MaxRollers]int {
	var depths [api.MaxRollers]int
	for j := range depths {
		depths[j] = -1
	}
	depths[from] = 0
	queue := []int{from}
	for len(queue) > 0 {
		i := queue[0]
		queue = queue[1:]
		for j := range c.size {
			if c.at[i][j] > 0 && c.together(from, j) && depths[j] < 0 {
				depths[j] = depths[i] + 1
				queue = append(queue, j)
			}
		}
	}
	return depths
}

// period is the period of the class of a number, and 0 if the class is trivial. For a step from i to j, the depth of i plus 1 and the depth of j are lengths of walks from the number to j, so the period divides their difference; and the length of a walk from the number to itself is the sum of these differences over its steps.
func (c classed) period(from int) int {
	depths := c.depths(from)
	period := 0
	for i := range c.size {
		for j := range c.size {
			if c.at[i][j] > 0 && depths[i] >= 0 && depths[j] >= 0 {
				period = fraction.CommonDivisor(period, depths[i]+1-depths[j])
			}
		}
	}
	return period
}

// isFinal reports whether no step leads out of a class.
func (c classed) isFinal(class int) bool {
	for j := range c.size {
		if c.leaves(class, j) {
			return false
		}
	}
	return true
}

// blocks are all classes, so that none comes before one that leads to it, and otherwise in ascending order.
func (c classed) blocks() [][]int {
	blocks := make([][]int, 0, len(c.members))
	var placed set
	for len(blocks) < len(c.members) {
	search:
		for class := range c.size {
			if placed[class] || c.classOf[class] != class {
				continue
			}
			for i := range c.size {
				if c.leaves(i, class) && !placed[c.classOf[i]] {
					continue search
				}
			}
			placed[class] = true
			blocks = append(blocks, c.members[class])
			break search
		}
	}
	return blocks
}

// Classes returns for each number the smallest number of its class.
func Classes(m [][]int) ([]int, api.Errno) {
	c, ok := readClassed(m)
	if !ok {
		return nil, api.ErrArg
	}
	classes := make([]int, c.size)
	copy(classes, c.classOf[:])
	return classes, api.OK
}

// Periods returns for each number the period of its class, 0 if that is trivial.
func Periods(m [][]int) ([]int, api.Errno) {
	c, ok := readClassed(m)
	if !ok {
		return nil, api.ErrArg
	}
	periods := make([]int, c.size)
	for i := range c.size {
		periods[i] = c.period(i)
	}
	return periods, api.OK
}

// Final returns the smallest numbers of all final classes, in ascending order.
func Final(m [][]int) ([]int, api.Errno) {
	c, ok := readClassed(m)
	if !ok {
		return nil, api.ErrArg
	}
	var final []int
	for class := range c.size {
		if c.classOf[class] == class && c.isFinal(class) {
			final = append(final, class)
		}
	}
	return final, api.OK
}

// Blocks returns all classes, each in ascending order, so that no class comes before one from which it can be reached.
func Blocks(m [][]int) ([][]int, api.Errno) {
	c, ok := readClassed(m)
	if !ok {
		return nil, api.ErrArg
	}
	return c.blocks(), api.OK
}
