package shares

import (
	"slices"

	"numnah/api"
	"numnah/fraction"
)

// The greatest Num and Den of rates whose loads are computed: the sum of six fractions of such numbers is in the range of int, as a fraction whose Den is the product of theirs.
const (
	maxRate    = 1000000
	maxRateDen = 100
)

// network are pipes and their users.
type network struct {
	pipes []int
	users []api.User
}

// readNetwork reads pipes and users, and reports whether they are such.
func readNetwork(pipes []int, users []api.User) (*network, bool) {
	if len(pipes) < 1 || len(pipes) > api.MaxPipes || len(users) < 1 || len(users) > api.MaxUsers {
		return nil, false
	}
	for _, capacity := range pipes {
		if capacity < 0 || capacity > api.MaxFlow {
			return nil, false
		}
	}
	n := &network{pipes, users}
	for _, u := range users {
		if !n.isUser(u) {
			return nil, false
		}
	}
	return n, true
}

func (n *network) isUser(u api.User) bool {
	if u.Weight < 1 || u.Weight > api.MaxHeavy || len(u.Pipes) < 1 {
		return false
	}
	before := -1
	for _, p := range u.Pipes {
		if p <= before || p >= len(n.pipes) {
			return false
		}
		before = p
	}
	return true
}

// areRates reports whether these are rates for the users whose loads can be computed.
func (n *network) areRates(rates []api.Frac) bool {
	if len(rates) != len(n.users) {
		return false
	}
	for _, f := range rates {
		if !fraction.IsValid(f) || f.Num < 0 || f.Num > maxRate || f.Den > maxRateDen {
			return false
		}
	}
	return true
}

// loads are the loads of all pipes.
func (n *network) loads(rates []api.Frac) []api.Frac {
	loads := slices.Repeat([]api.Frac{fraction.Whole(0)}, len(n.pipes))
	for i, u := range n.users {
		for _, p := range u.Pipes {
			loads[p] = fraction.Sum(loads[p], rates[i])
		}
	}
	return loads
}

// arePossible reports whether rates with these loads are possible.
func (n *network) arePossible(loads []api.Frac) bool {
	for p, capacity := range n.pipes {
		if fraction.Compare(loads[p], fraction.Whole(capacity)) > 0 {
			return false
		}
	}
	return true
}

// level is the level of a user with the rate.
func level(u api.User, rate api.Frac) api.Frac {
	return fraction.Lowest(rate.Num, rate.Den*u.Weight)
}

// holds reports whether a pipe, which need not be there, holds a user of rates with these loads.
func (n *network) holds(pipe, user int, rates, loads []api.Frac) bool {
	if !slices.Contains(n.users[user].Pipes, pipe) || loads[pipe] != fraction.Whole(n.pipes[pipe]) {
		return false
	}
	height := level(n.users[user], rates[user])
	for i, u := range n.users {
		if slices.Contains(u.Pipes, pipe) && fraction.Compare(level(u, rates[i]), height) > 0 {
			return false
		}
	}
	return true
}

// holder is the smallest pipe that holds a user, and -1 if there is none.
func (n *network) holder(user int, rates, loads []api.Frac) int {
	for _, pipe := range n.users[user].Pipes {
		if n.holds(pipe, user, rates, loads) {
			return pipe
		}
	}
	return -1
}

// Load returns the loads of the pipes.
func Load(pipes []int, users []api.User, rates []api.Frac) ([]api.Frac, api.Errno) {
	n, ok := readNetwork(pipes, users)
	if !ok {
		return nil, api.ErrArg
	}
	if !n.areRates(rates) {
		return nil, api.ErrAnswer
	}
	return n.loads(rates), api.OK
}

// Better returns, for possible rates, the smallest user that no pipe holds, and -1 if there is none.
func Better(pipes []int, users []api.User, rates []api.Frac) (int, api.Errno) {
	n, ok := readNetwork(pipes, users)
	if !ok {
		return 0, api.ErrArg
	}
	if !n.areRates(rates) {
		return 0, api.ErrAnswer
	}
	loads := n.loads(rates)
	if !n.arePossible(loads) {
		return 0, api.ErrAnswer
	}
	for user := range users {
		if n.holder(user, rates, loads) < 0 {
			return user, api.OK
		}
	}
	return -1, api.OK
}
