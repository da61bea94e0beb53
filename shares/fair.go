package shares

import (
	"slices"

	"numnah/api"
	"numnah/fraction"
)

// reach is the level at which a pipe is full if its free users are raised to it and the others keep their rates. It reports whether the pipe has free users.
func (n *network) reach(pipe int, rates []api.Frac, free []bool) (api.Frac, bool) {
	left, weights := fraction.Whole(n.pipes[pipe]), 0
	for i, u := range n.users {
		if !slices.Contains(u.Pipes, pipe) {
			continue
		}
		if free[i] {
			weights += u.Weight
		} else {
			left = fraction.Difference(left, rates[i])
		}
	}
	if weights == 0 {
		return api.Frac{}, false
	}
	return fraction.Lowest(left.Num, left.Den*weights), true
}

// lowestReach is the smallest level at which a pipe is full, and reports whether there are free users.
func (n *network) lowestReach(rates []api.Frac, free []bool) (api.Frac, bool) {
	var lowest api.Frac
	found := false
	for pipe := range n.pipes {
		if f, ok := n.reach(pipe, rates, free); ok && (!found || fraction.Compare(f, lowest) < 0) {
			lowest, found = f, true
		}
	}
	return lowest, found
}

// fair are the fair rates: all users are raised to the same level, until a pipe is full; its users keep their rates, and the others are raised on.
func (n *network) fair() []api.Frac {
	rates := make([]api.Frac, len(n.users))
	free := slices.Repeat([]bool{true}, len(n.users))
	raise := func(height api.Frac) {
		for i, u := range n.users {
			if free[i] {
				rates[i] = fraction.Lowest(height.Num*u.Weight, height.Den)
			}
		}
	}
	for {
		height, ok := n.lowestReach(rates, free)
		if !ok {
			return rates
		}
		raise(height)
		for pipe, load := range n.loads(rates) {
			if load == fraction.Whole(n.pipes[pipe]) {
				n.fix(pipe, free)
			}
		}
	}
}

// fix takes the users of a pipe from those that are free.
func (n *network) fix(pipe int, free []bool) {
	for i, u := range n.users {
		if slices.Contains(u.Pipes, pipe) {
			free[i] = false
		}
	}
}

// Fair returns the fair rates, and for each user the smallest pipe that holds it.
func Fair(pipes []int, users []api.User) ([]api.Frac, []int, api.Errno) {
	n, ok := readNetwork(pipes, users)
	if !ok {
		return nil, nil, api.ErrArg
	}
	rates := n.fair()
	loads := n.loads(rates)
	holds := make([]int, len(users))
	for user := range holds {
		holds[user] = n.holder(user, rates, loads)
	}
	return rates, holds, api.OK
}

// Check returns OK if rates are possible and each user is held by the pipe that holds has for it.
func Check(pipes []int, users []api.User, rates []api.Frac, holds []int) api.Errno {
	n, ok := readNetwork(pipes, users)
	if !ok {
		return api.ErrArg
	}
	// Possible rates that hold everybody are fair, and no others are. So the sums of other rates, which may have any Num and Den, are not needed.
	if !slices.Equal(rates, n.fair()) || len(holds) != len(users) {
		return api.ErrAnswer
	}
	loads := n.loads(rates)
	for user, pipe := range holds {
		if !n.holds(pipe, user, rates, loads) {
			return api.ErrAnswer
		}
	}
	return api.OK
}
