package shares_test

import (
	"math"
	"math/big"
	"math/rand"
	"slices"
	"testing"

	"numnah/api"
	"numnah/shares"
)

// P7.1: the chapter's example, and the rules on the same claims.
func TestAwardByHand(t *testing.T) {
	for _, x := range []struct {
		rule   int
		claims []int
		estate int
		want   [][2]int
	}{
		{3, []int{100, 200, 300}, 100, [][2]int{{100, 3}, {100, 3}, {100, 3}}},
		{3, []int{100, 200, 300}, 200, [][2]int{{50, 1}, {75, 1}, {75, 1}}},
		{3, []int{100, 200, 300}, 300, [][2]int{{50, 1}, {100, 1}, {150, 1}}},
		{3, []int{100, 200, 300}, 400, [][2]int{{50, 1}, {125, 1}, {225, 1}}},
		{0, []int{100, 200, 300}, 100, [][2]int{{50, 3}, {100, 3}, {50, 1}}},
		{1, []int{100, 200, 300}, 400, [][2]int{{100, 1}, {150, 1}, {150, 1}}},
		{2, []int{100, 200, 300}, 400, [][2]int{{100, 3}, {400, 3}, {700, 3}}},
		{2, []int{100, 200, 300}, 200, [][2]int{{0, 1}, {50, 1}, {150, 1}}},
		{4, []int{100, 200, 300}, 200, [][2]int{{50, 1}, {75, 1}, {75, 1}}},
		{4, []int{100, 200, 300}, 400, [][2]int{{250, 3}, {400, 3}, {550, 3}}},
		{4, []int{100, 200, 300}, 300, [][2]int{{50, 1}, {100, 1}, {150, 1}}},
		{3, []int{1, 2}, 1, [][2]int{{1, 2}, {1, 2}}},
		{3, []int{1, 2}, 2, [][2]int{{1, 2}, {3, 2}}},
		{4, []int{1, 2}, 2, [][2]int{{3, 4}, {5, 4}}},
	} {
		if l, e := shares.Award(x.rule, x.claims, x.estate); e != api.OK || !slices.Equal(l, pairs(x.want...)) {
			t.Errorf("Award(%d, %v, %d) = %v, %d", x.rule, x.claims, x.estate, l, e)
		}
	}
	for rule := range 5 {
		for _, claims := range [][]int{{0}, {0, 0}, {0, 0, 0, 0, 0, 0, 0, 0, 0, 0}} {
			if l, e := shares.Award(rule, claims, 0); e != api.OK || !slices.Equal(l, slices.Repeat(pairs([2]int{0, 1}), len(claims))) {
				t.Errorf("Award(%d, %v, 0) = %v, %d", rule, claims, l, e)
			}
		}
	}
}

// P7.1, P3
func TestAward(t *testing.T) {
	for _, h := range slices.Concat(smallHeirs(), someHeirs(1, 30)) {
		for rule := range 5 {
			want := award(rule, h.claims, h.estate)
			l, e := shares.Award(rule, h.claims, h.estate)
			if e != api.OK || !areThose(l, want) {
				t.Errorf("Award(%d, %v, %d) = %v, %d, not %v", rule, h.claims, h.estate, l, e, want)
			}
			if e := shares.Right(rule, h.claims, h.estate, fracs(want)); e != api.OK {
				t.Errorf("Right(%d, %v, %d, %v) = %d", rule, h.claims, h.estate, want, e)
			}
		}
	}
}

// P7.1: the award of a rule is right for another one only if it is the same.
func TestAwardsOfOtherRules(t *testing.T) {
	for _, h := range slices.Concat(smallHeirs(), someHeirs(2, 10)) {
		var lists [5][]api.Frac
		for rule := range lists {
			lists[rule] = fracs(award(rule, h.claims, h.estate))
		}
		for rule, right := range lists {
			for _, l := range lists {
				want := api.ErrAnswer
				if slices.Equal(l, right) {
					want = api.OK
				}
				if e := shares.Right(rule, h.claims, h.estate, l); e != want {
					t.Errorf("Right(%d, %v, %d, %v) = %d", rule, h.claims, h.estate, l, e)
				}
			}
		}
	}
}

// worse are lists that differ from an award of at least one share, or write it otherwise.
func worse(random *rand.Rand, right []api.Frac) [][]api.Frac {
	list := [][]api.Frac{nil, {}, right[1:], right[:len(right)-1], append(slices.Clone(right), frac(0, 1)), append(slices.Clone(right), api.Frac{}), make([]api.Frac, len(right))}
	i := random.Intn(len(right))
	f := right[i]
	for _, g := range pairs([][2]int{{2 * f.Num, 2 * f.Den}, {-f.Num, -f.Den}, {f.Num + 1, f.Den}, {f.Num - 1, f.Den}, {f.Num + f.Den, f.Den}, {f.Num, f.Den + 1}, {f.Num, 0}, {f.Num, -f.Den}, {math.MaxInt, f.Den}, {math.MinInt, f.Den}, {f.Num, math.MaxInt}, {f.Num, math.MinInt}, {math.MinInt, math.MinInt}, {math.MinInt, -1}}...) {
		if g != f {
			changed := slices.Clone(right)
			changed[i] = g
			list = append(list, changed)
		}
	}
	if j := random.Intn(len(right)); j != i {
		// The sum stays the same.
		moved := slices.Clone(right)
		moved[i] = fracs([]*big.Rat{plus(rat(right[i]), whole(1))})[0]
		moved[j] = fracs([]*big.Rat{minus(rat(right[j]), whole(1))})[0]
		list = append(list, moved)
		if right[i] != right[j] {
			exchanged := slices.Clone(right)
			exchanged[i], exchanged[j] = right[j], right[i]
			list = append(list, exchanged)
		}
	}
	return list
}

// P7.1: what is no award, or not that of the rule.
func TestWhatIsNotRight(t *testing.T) {
	random := rand.New(rand.NewSource(3))
	for _, h := range slices.Concat(smallHeirs(), someHeirs(3, 5)) {
		for rule := range 5 {
			for _, l := range worse(random, fracs(award(rule, h.claims, h.estate))) {
				if e := shares.Right(rule, h.claims, h.estate, l); e != api.ErrAnswer {
					t.Errorf("Right(%d, %v, %d, %.300v) = %d", rule, h.claims, h.estate, l, e)
				}
			}
		}
	}
}

// wrongHeirs are no claims, or no estate for them.
func wrongHeirs() []heirs {
	return []heirs{
		{nil, 0}, {[]int{}, 0}, {nil, 1}, {make([]int, 11), 0}, {slices.Repeat([]int{1}, 11), 5}, {make([]int, 100000), 0},
		{[]int{-1}, 0}, {[]int{-1, 5}, 2}, {[]int{5, -1}, 2}, {[]int{1001}, 1}, {[]int{1000, 1001}, 1}, {[]int{math.MinInt}, 0}, {[]int{math.MaxInt}, 1}, {[]int{math.MaxInt, math.MaxInt}, 1}, {[]int{math.MaxInt, math.MinInt, 1}, 0}, {[]int{1 << 32}, 0},
		{[]int{5}, -1}, {[]int{5}, 6}, {[]int{0}, 1}, {[]int{0}, -1}, {[]int{1, 2, 3}, 7}, {[]int{1, 2, 3}, math.MaxInt}, {[]int{1, 2, 3}, math.MinInt}, {slices.Repeat([]int{1000}, 10), 10001}, {[]int{5}, 1 << 32},
	}
}

// P7.1: ErrArg comes before ErrAnswer.
func TestClaimErrors(t *testing.T) {
	awards := [][]api.Frac{nil, {}, pairs([2]int{0, 1}), pairs([2]int{1, 1}), pairs([2]int{1, 0}), make([]api.Frac, 11)}
	for _, h := range wrongHeirs() {
		for rule := -1; rule <= 5; rule++ {
			if l, e := shares.Award(rule, h.claims, h.estate); e != api.ErrArg || len(l) > 0 {
				t.Errorf("Award(%d, %.100v, %d) = %v, %d", rule, h.claims, h.estate, l, e)
			}
			for _, award := range awards {
				if e := shares.Right(rule, h.claims, h.estate, award); e != api.ErrArg {
					t.Errorf("Right(%d, %.100v, %d, %v) = %d", rule, h.claims, h.estate, award, e)
				}
			}
		}
		for _, award := range awards {
			if p, is, e := shares.Agrees(h.claims, h.estate, award); e != api.ErrArg || is || p != [2]int{} {
				t.Errorf("Agrees(%.100v, %d, %v) = %v, %v, %d", h.claims, h.estate, award, p, is, e)
			}
		}
	}
	for _, rule := range []int{-1, 5, 6, math.MinInt, math.MaxInt, 1 << 32, 1<<32 + 1} {
		for _, h := range someHeirs(4, 1) {
			if l, e := shares.Award(rule, h.claims, h.estate); e != api.ErrArg || len(l) > 0 {
				t.Errorf("Award(%d, %v, %d) = %v, %d", rule, h.claims, h.estate, l, e)
			}
			for _, award := range append(awards, fracs(award(1, h.claims, h.estate))) {
				if e := shares.Right(rule, h.claims, h.estate, award); e != api.ErrArg {
					t.Errorf("Right(%d, %v, %d, %v) = %d", rule, h.claims, h.estate, award, e)
				}
			}
		}
	}
}
