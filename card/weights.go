package card

import "numnah/api"

// Weights returns weights that realize the function, or else a balance against it, as two lists.
func Weights(function string) ([]int, [][]int, api.Errno) {
	f, ok := readTotal(function)
	if !ok {
		return nil, nil, api.ErrArg
	}
	if balance := f.balance(); balance != nil {
		return nil, balance, api.OK
	}
	return f.weights(), nil, api.OK
}

// pairSum tells how often each variable is 1 in two points: which are 1 in both, and which in one of them.
type pairSum struct {
	both, one int
}

func sumOf(a, b int) pairSum {
	return pairSum{both: a & b, one: a ^ b}
}

// balance is a balance of two points against two, or nil if there is none. It looks for no longer one: a function of at most 8 variables with any balance has one of two points against two. (The tests show it for all functions of up to MaxVars variables, by their weights.)
func (f table) balance() [][]int {
	sums := map[pairSum][2]int{}
	ones := f.ones.list()
	for i, a := range ones {
		for _, b := range ones[i+1:] {
			sums[sumOf(a, b)] = [2]int{a, b}
		}
	}
	zeros := f.zeros.list()
	for i, a := range zeros {
		for _, b := range zeros[i+1:] {
			if against, ok := sums[sumOf(a, b)]; ok {
				return [][]int{against[:], {a, b}}
			}
		}
	}
	return nil
}

// weights are found by correcting them at each point at which they are wrong. This comes to an end exactly if there are weights, hence for every function without a balance.
func (f table) weights() []int {
	weights := make([]int, f.vars+1)
	for wrong := true; wrong; {
		wrong = false
		for p := range f.size() {
			if reaches(weights, p) == f.ones.has(p) {
				continue
			}
			wrong = true
			step := -1
			if f.ones.has(p) {
				step = 1
			}
			correct(weights, p, step)
		}
	}
	return weights
}

// reaches reports whether the weights of the variables that are 1 at the point add up to the last weight, at least.
func reaches(weights []int, point int) bool {
	last := len(weights) - 1
	sum := 0
	for i, w := range weights[:last] {
		if point>>i&1 == 1 {
			sum += w
		}
	}
	return sum >= weights[last]
}

// correct moves the weights by a step towards the value 1 at the point, or by a negative step away from it.
func correct(weights []int, point, step int) {
	last := len(weights) - 1
	for i := range last {
		if point>>i&1 == 1 {
			weights[i] += step
		}
	}
	weights[last] -= step
}

// Realize returns OK if the weights realize the function.
func Realize(function string, weights []int) api.Errno {
	f, ok := readTotal(function)
	if !ok || len(weights) != f.vars+1 {
		return api.ErrArg
	}
	for _, w := range weights {
		if w < -api.MaxWeight || w > api.MaxWeight {
			return api.ErrArg
		}
	}
	for p := range f.size() {
		if reaches(weights, p) != f.ones.has(p) {
			return api.ErrAnswer
		}
	}
	return api.OK
}

// Balance returns OK if the points are two lists that are a balance against the function.
func Balance(function string, points [][]int) api.Errno {
	f, ok := readTotal(function)
	if !ok {
		return api.ErrArg
	}
	if len(points) != 2 || len(points[0]) != len(points[1]) {
		return api.ErrAnswer
	}
	if len(points[0]) < 1 || len(points[0]) > api.MaxBalance {
		return api.ErrAnswer
	}
	if !allIn(points[0], f.ones) || !allIn(points[1], f.zeros) {
		return api.ErrAnswer
	}
	if counts(points[0]) != counts(points[1]) {
		return api.ErrAnswer
	}
	return api.OK
}

// allIn reports whether all numbers are points of the set.
func allIn(numbers []int, set pointSet) bool {
	for _, p := range numbers {
		if p < 0 || p >= maxPoints || !set.has(p) {
			return false
		}
	}
	return true
}

// counts tells how often each variable is 1 in a list of points.
func counts(points []int) [api.MaxVars]int {
	var times [api.MaxVars]int
	for _, p := range points {
		for i := range times {
			times[i] += p >> i & 1
		}
	}
	return times
}
