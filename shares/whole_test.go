package shares_test

import (
	"slices"
	"testing"

	"numnah/api"
	"numnah/shares"
)

// P7.3
func TestWholeByHand(t *testing.T) {
	for _, x := range []struct {
		n     network
		rates []int
	}{
		{network{[]int{10, 4}, []api.User{user(1, 0, 1), user(1, 0)}}, []int{4, 6}},
		{network{[]int{5}, []api.User{user(1, 0), user(1, 0)}}, []int{3, 2}}, // the smallest of several gets the last one
		{network{[]int{5}, []api.User{user(1, 0), user(2, 0)}}, []int{2, 3}}, // at 1 2 both would have the level 2, but for the weights
		{network{[]int{1}, []api.User{user(1, 0), user(2, 0)}}, []int{0, 1}},
		{network{[]int{2}, []api.User{user(1, 0), user(2, 0)}}, []int{1, 1}},
		{network{[]int{10}, []api.User{user(1, 0), user(4, 0)}}, []int{2, 8}},
		{network{[]int{0, 7}, []api.User{user(1, 0, 1), user(3, 1)}}, []int{0, 7}},
		{network{[]int{0}, []api.User{user(1, 0)}}, []int{0}},
		{network{[]int{200, 3}, []api.User{user(4, 0)}}, []int{200}},
	} {
		if l, e := shares.Whole(x.n.pipes, x.n.users); e != api.OK || !slices.Equal(l, x.rates) {
			t.Errorf("Whole(%v) = %v, %d", x.n, l, e)
		}
	}
}

// P7.3
func TestWhole(t *testing.T) {
	for _, n := range slices.Concat(named(), smallNetworks(), someNetworks(14, 3)) {
		want := n.whole()
		if l, e := shares.Whole(n.pipes, n.users); e != api.OK || !slices.Equal(l, want) {
			t.Errorf("Whole(%v) = %v, %d, not %v", n, l, e, want)
		}
	}
}
