package card

import "numnah/api"

// maxCubes is the greatest number of cubes that Check and Irredundant read. A least cover never has more, since it has at most one cube for each point.
const maxCubes = 32

// leastCover is a shortest list of the primes that contains all points with the value 1.
func (f table) leastCover(primes []cube) []cube {
	sets := pointSets(primes, f.vars)
	near := neighbours(sets)
	var best [maxCubes]cube
	size := maxCubes + 1
	var chosen []cube
	var search func(open pointSet)
	search = func(open pointSet) {
		if len(chosen)+apartAtLeast(open, near) >= size {
			return
		}
		if open == 0 {
			size = copy(best[:], chosen)
			return
		}
		point := rarest(open, sets)
		for i, s := range sets {
			if !s.has(point) {
				continue
			}
			chosen = append(chosen, primes[i])
			search(open &^ s)
			chosen = chosen[:len(chosen)-1]
		}
	}
	search(f.ones)
	cover := make([]cube, size)
	copy(cover, best[:])
	return cover
}

// neighbours are, for each point, all points of the sets that contain it.
func neighbours(sets []pointSet) [maxPoints]pointSet {
	var near [maxPoints]pointSet
	for _, s := range sets {
		for _, p := range s.list() {
			near[p] |= s
		}
	}
	return near
}

// apartAtLeast is the size of some set of open points no two of which are neighbours: as many cubes, at least, are needed for the open points.
func apartAtLeast(open pointSet, near [maxPoints]pointSet) int {
	count := 0
	for open != 0 {
		p := open.least()
		open &^= near[p] | single(p)
		count++
	}
	return count
}

// rarest is the open point that the fewest sets contain, so that a search that branches there has the fewest branches.
func rarest(open pointSet, sets []pointSet) int {
	point, fewest := 0, len(sets)+1
	for _, p := range open.list() {
		count := 0
		for _, s := range sets {
			if s.has(p) {
				count++
			}
		}
		if count < fewest {
			point, fewest = p, count
		}
	}
	return point
}

// Cover returns a cover with the smallest number of cubes, all of them prime.
func Cover(function string) ([]string, api.Errno) {
	f, ok := readTable(function)
	if !ok {
		return nil, api.ErrArg
	}
	return texts(f.leastCover(f.primes()), f.vars), api.OK
}

// readCover reads a function and a cover of it: the function, and the points of each of the cubes.
func readCover(function string, cubes []string) (table, []pointSet, api.Errno) {
	f, ok := readTable(function)
	if !ok || len(cubes) > maxCubes {
		return table{}, nil, api.ErrArg
	}
	sets := make([]pointSet, len(cubes))
	var all pointSet
	for i, text := range cubes {
		c, ok := readCube(text, f.vars)
		if !ok {
			return table{}, nil, api.ErrArg
		}
		sets[i] = c.points(f.vars)
		all |= sets[i]
	}
	if all&f.zeros != 0 || f.ones&^all != 0 {
		return table{}, nil, api.ErrAnswer
	}
	return f, sets, api.OK
}

// Check returns OK if the cubes are a cover of the function.
func Check(function string, cubes []string) api.Errno {
	_, _, err := readCover(function, cubes)
	return err
}

// Irredundant reports whether leaving out any cube of a cover leaves no cover.
func Irredundant(function string, cubes []string) (bool, api.Errno) {
	f, sets, err := readCover(function, cubes)
	if err != api.OK {
		return false, err
	}
	needed := f.ones & inOneOnly(sets)
	for _, s := range sets {
		if s&needed == 0 {
			return false, api.OK
		}
	}
	return true, api.OK
}

// Apart returns the lexicographically smallest one of the greatest sets of points with the value 1 no two of which are in one implicant.
func Apart(function string) ([]int, api.Errno) {
	f, ok := readTable(function)
	if !ok {
		return nil, api.ErrArg
	}
	near := neighbours(pointSets(f.primes(), f.vars))
	return greatestApart(f.ones, near), api.OK
}

// greatestApart takes the points in ascending order, so that among sets of one size it meets the lexicographically smallest one first.
func greatestApart(ones pointSet, near [maxPoints]pointSet) []int {
	var best [maxPoints]int
	size := 0
	var chosen []int
	var search func(open pointSet)
	search = func(open pointSet) {
		if len(chosen) > size {
			size = copy(best[:], chosen)
		}
		for ; len(chosen)+open.size() > size; open &= open - 1 {
			p := open.least()
			chosen = append(chosen, p)
			search(open &^ (near[p] | single(p)))
			chosen = chosen[:len(chosen)-1]
		}
	}
	search(ones)
	points := make([]int, size)
	copy(points, best[:])
	return points
}
