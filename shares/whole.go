package shares

import (
	"cmp"
	"slices"

	"numnah/api"
)

// canGrow reports whether the rate of a user can grow by 1.
func (n *network) canGrow(user int, rates []int) bool {
	for _, pipe := range n.users[user].Pipes {
		load := 0
		for i, u := range n.users {
			if slices.Contains(u.Pipes, pipe) {
				load += rates[i]
			}
		}
		if load >= n.pipes[pipe] {
			return false
		}
	}
	return true
}

// byNext are the users in ascending order of the levels that they have if they get 1 more.
func (n *network) byNext(rates []int) []int {
	users := make([]int, len(n.users))
	for i := range users {
		users[i] = i
	}
	return sorted(users, func(i, j int) int {
		return cmp.Compare((rates[i]+1)*n.users[j].Weight, (rates[j]+1)*n.users[i].Weight)
	})
}

// grow gives 1 more to the first user that can have it, and reports whether there is one.
func (n *network) grow(rates []int) bool {
	for _, user := range n.byNext(rates) {
		if n.canGrow(user, rates) {
			rates[user]++
			return true
		}
	}
	return false
}

// Whole returns the whole rates that arise by giving 1 more to one user after the other.
func Whole(pipes []int, users []api.User) ([]int, api.Errno) {
	n, ok := readNetwork(pipes, users)
	if !ok {
		return nil, api.ErrArg
	}
	rates := make([]int, len(users))
	for n.grow(rates) {
	}
	return rates, api.OK
}
