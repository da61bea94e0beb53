package shares_test

import (
	"math/big"
	"math/rand"
	"slices"

	"numnah/api"
)

// What follows computes with the definitions of the chapter.

func frac(num, den int) api.Frac {
	return api.Frac{Num: num, Den: den}
}

// pairs are fractions, each written as its Num and its Den.
func pairs(list ...[2]int) []api.Frac {
	var fractions []api.Frac
	for _, p := range list {
		fractions = append(fractions, frac(p[0], p[1]))
	}
	return fractions
}

func whole(number int) *big.Rat {
	return big.NewRat(int64(number), 1)
}

func plus(a, b *big.Rat) *big.Rat {
	return new(big.Rat).Add(a, b)
}

func minus(a, b *big.Rat) *big.Rat {
	return new(big.Rat).Sub(a, b)
}

func times(a, b *big.Rat) *big.Rat {
	return new(big.Rat).Mul(a, b)
}

func half(a *big.Rat) *big.Rat {
	return times(a, big.NewRat(1, 2))
}

func smaller(a, b *big.Rat) *big.Rat {
	if a.Cmp(b) < 0 {
		return a
	}
	return b
}

func greater(a, b *big.Rat) *big.Rat {
	if a.Cmp(b) < 0 {
		return b
	}
	return a
}

func total(list []*big.Rat) *big.Rat {
	sum := new(big.Rat)
	for _, r := range list {
		sum.Add(sum, r)
	}
	return sum
}

func wholes(numbers []int) []*big.Rat {
	var list []*big.Rat
	for _, n := range numbers {
		list = append(list, whole(n))
	}
	return list
}

func sumOf(numbers []int) int {
	sum := 0
	for _, n := range numbers {
		sum += n
	}
	return sum
}

// isValid reports whether a fraction is one in lowest terms, by the definition of layer 2.
func isValid(f api.Frac) bool {
	if f.Den < 1 {
		return false
	}
	r := rat(f)
	return r.Num().IsInt64() && r.Num().Int64() == int64(f.Num) && r.Denom().Int64() == int64(f.Den)
}

func rat(f api.Frac) *big.Rat {
	return big.NewRat(int64(f.Num), int64(f.Den))
}

// isThat reports whether a fraction is the number, in lowest terms.
func isThat(f api.Frac, r *big.Rat) bool {
	return isValid(f) && rat(f).Cmp(r) == 0
}

func areThose(list []api.Frac, want []*big.Rat) bool {
	if len(list) != len(want) {
		return false
	}
	for i, f := range list {
		if !isThat(f, want[i]) {
			return false
		}
	}
	return true
}

// fracs are numbers as fractions.
func fracs(list []*big.Rat) []api.Frac {
	var fractions []api.Frac
	for _, r := range list {
		fractions = append(fractions, frac(int(r.Num().Int64()), int(r.Denom().Int64())))
	}
	return fractions
}

// withL is the award at which the shares that a number L gives add up to the estate. They change linearly between the claims.
func withL(claims []*big.Rat, estate *big.Rat, give func(claim, l *big.Rat) *big.Rat) []*big.Rat {
	at := func(l *big.Rat) []*big.Rat {
		var shares []*big.Rat
		for _, c := range claims {
			shares = append(shares, give(c, l))
		}
		return shares
	}
	steps := append([]*big.Rat{new(big.Rat)}, claims...)
	slices.SortFunc(steps, func(a, b *big.Rat) int { return a.Cmp(b) })
	for i, to := range steps {
		if total(at(to)).Cmp(estate) == 0 {
			return at(to)
		}
		from := steps[max(0, i-1)]
		gap, all := minus(estate, total(at(from))), minus(total(at(to)), total(at(from)))
		if all.Sign() == 0 || gap.Sign() != all.Sign() || new(big.Rat).Abs(gap).Cmp(new(big.Rat).Abs(all)) > 0 {
			continue
		}
		part := new(big.Rat).Quo(gap, all)
		return at(plus(from, times(part, minus(to, from))))
	}
	panic("no L")
}

func equalAwards(claims []*big.Rat, estate *big.Rat) []*big.Rat {
	return withL(claims, estate, smaller)
}

func equalLosses(claims []*big.Rat, estate *big.Rat) []*big.Rat {
	return withL(claims, estate, func(claim, l *big.Rat) *big.Rat { return greater(new(big.Rat), minus(claim, l)) })
}

// award is the award of a rule.
func award(rule int, numbers []int, estate int) []*big.Rat {
	claims, sum, e := wholes(numbers), whole(sumOf(numbers)), whole(estate)
	var halves, list []*big.Rat
	for _, c := range claims {
		halves = append(halves, half(c))
	}
	switch {
	case rule == 0:
		for _, c := range claims {
			if sum.Sign() == 0 {
				list = append(list, new(big.Rat))
			} else {
				list = append(list, new(big.Rat).Quo(times(c, e), sum))
			}
		}
	case rule == 1:
		list = equalAwards(claims, e)
	case rule == 2:
		list = equalLosses(claims, e)
	case e.Cmp(half(sum)) <= 0:
		list = equalAwards(halves, e)
	case rule == 3:
		for i, a := range equalAwards(halves, minus(sum, e)) {
			list = append(list, minus(claims[i], a))
		}
	case rule == 4:
		for i, a := range equalAwards(halves, minus(e, half(sum))) {
			list = append(list, plus(halves[i], a))
		}
	}
	return list
}

// garment divides an estate by the contested garment.
func garment(estate, a, b *big.Rat) (*big.Rat, *big.Rat) {
	first, second := greater(new(big.Rat), minus(estate, b)), greater(new(big.Rat), minus(estate, a))
	left := half(minus(minus(estate, first), second))
	return plus(first, left), plus(second, left)
}

// disagreement is the first two positions of an award that do not agree with the contested garment, and reports whether there are none.
func disagreement(claims []int, shares []*big.Rat) ([2]int, bool) {
	for i := range shares {
		for j := i + 1; j < len(shares); j++ {
			first, second := garment(plus(shares[i], shares[j]), whole(claims[i]), whole(claims[j]))
			if first.Cmp(shares[i]) != 0 && second.Cmp(shares[j]) != 0 {
				return [2]int{i, j}, false
			}
		}
	}
	return [2]int{}, true
}

// heirs are claims on an estate.
type heirs struct {
	claims []int
	estate int
}

// tuples are all lists of a length with numbers from 0 to most.
func tuples(length, most int) [][]int {
	list := [][]int{nil}
	for range length {
		var longer [][]int
		for _, l := range list {
			for x := range most + 1 {
				longer = append(longer, append(slices.Clone(l), x))
			}
		}
		list = longer
	}
	return list
}

// smallHeirs are all claims of up to three heirs up to 5, and of four up to 2, on all estates.
func smallHeirs() []heirs {
	var list []heirs
	for _, claims := range slices.Concat(tuples(1, 5), tuples(2, 5), tuples(3, 5), tuples(4, 2)) {
		for estate := range sumOf(claims) + 1 {
			list = append(list, heirs{claims, estate})
		}
	}
	return list
}

// someHeirs are claims of all numbers of heirs, with estates at the ends, in the middle and elsewhere.
func someHeirs(seed int64, times int) []heirs {
	random := rand.New(rand.NewSource(seed))
	var list []heirs
	for range times {
		for n := 1; n <= api.MaxHeirs; n++ {
			most := []int{1, 3, 10, 100, api.MaxClaim}[random.Intn(5)]
			claims := make([]int, n)
			for i := range claims {
				claims[i] = random.Intn(most + 1)
				if random.Intn(5) == 0 {
					claims[i] = claims[random.Intn(n)]
				}
			}
			sum := sumOf(claims)
			for _, estate := range []int{0, 1, sum/2 - 1, sum / 2, sum/2 + 1, (sum + 1) / 2, sum - 1, sum, random.Intn(sum + 1), random.Intn(sum + 1)} {
				if estate >= 0 && estate <= sum {
					list = append(list, heirs{claims, estate})
				}
			}
		}
	}
	return list
}

// network are pipes and their users.
type network struct {
	pipes []int
	users []api.User
}

func user(weight int, pipes ...int) api.User {
	return api.User{Weight: weight, Pipes: pipes}
}

func (n network) loads(rates []*big.Rat) []*big.Rat {
	var loads []*big.Rat
	for p := range n.pipes {
		load := new(big.Rat)
		for i, u := range n.users {
			if slices.Contains(u.Pipes, p) {
				load.Add(load, rates[i])
			}
		}
		loads = append(loads, load)
	}
	return loads
}

func (n network) arePossible(rates []*big.Rat) bool {
	for p, load := range n.loads(rates) {
		if load.Cmp(whole(n.pipes[p])) > 0 {
			return false
		}
	}
	return true
}

func (n network) level(user int, rates []*big.Rat) *big.Rat {
	return new(big.Rat).Quo(rates[user], whole(n.users[user].Weight))
}

func (n network) holds(pipe, user int, rates []*big.Rat) bool {
	if !slices.Contains(n.users[user].Pipes, pipe) || n.loads(rates)[pipe].Cmp(whole(n.pipes[pipe])) != 0 {
		return false
	}
	for i, u := range n.users {
		if slices.Contains(u.Pipes, pipe) && n.level(i, rates).Cmp(n.level(user, rates)) > 0 {
			return false
		}
	}
	return true
}

// holder is the smallest pipe that holds a user, and -1 if there is none.
func (n network) holder(user int, rates []*big.Rat) int {
	for p := range n.pipes {
		if n.holds(p, user, rates) {
			return p
		}
	}
	return -1
}

// better is the smallest user that no pipe holds, and -1 if there is none.
func (n network) better(rates []*big.Rat) int {
	for user := range n.users {
		if n.holder(user, rates) < 0 {
			return user
		}
	}
	return -1
}

// whole gives 1 more to one user after the other.
func (n network) whole() []int {
	rates := make([]int, len(n.users))
	for {
		best := -1
		var least *big.Rat
		for user, u := range n.users {
			more := slices.Clone(rates)
			more[user]++
			quotient := big.NewRat(int64(more[user]), int64(u.Weight))
			if n.arePossible(wholes(more)) && (best < 0 || quotient.Cmp(least) < 0) {
				best, least = user, quotient
			}
		}
		if best < 0 {
			return rates
		}
		rates[best]++
	}
}

// subsets are all lists of pipes that a user may have.
func subsets(pipes int) [][]int {
	var list [][]int
	for bits := 1; bits < 1<<pipes; bits++ {
		var l []int
		for p := range pipes {
			if bits>>p&1 == 1 {
				l = append(l, p)
			}
		}
		list = append(list, l)
	}
	return list
}

// smallNetworks are all networks of up to two pipes and three users with capacities up to 3 and weights up to 2.
func smallNetworks() []network {
	var list []network
	for pipes := 1; pipes <= 2; pipes++ {
		var kinds []api.User
		for _, l := range subsets(pipes) {
			kinds = append(kinds, api.User{Weight: 1, Pipes: l}, api.User{Weight: 2, Pipes: l})
		}
		for _, capacities := range tuples(pipes, 3) {
			for users := 1; users <= 3; users++ {
				for _, choice := range tuples(users, len(kinds)-1) {
					n := network{pipes: capacities}
					for _, kind := range choice {
						n.users = append(n.users, kinds[kind])
					}
					list = append(list, n)
				}
			}
		}
	}
	return list
}

// someNetworks are a fixed choice of networks of all sizes.
func someNetworks(seed int64, times int) []network {
	random := rand.New(rand.NewSource(seed))
	var list []network
	for range times {
		for pipes := 1; pipes <= api.MaxPipes; pipes++ {
			for users := 1; users <= api.MaxUsers; users++ {
				var n network
				most := []int{1, 5, 30, api.MaxFlow}[random.Intn(4)]
				for range pipes {
					n.pipes = append(n.pipes, random.Intn(most+1))
				}
				choices := subsets(pipes)
				for range users {
					n.users = append(n.users, api.User{Weight: 1 + random.Intn(api.MaxHeavy), Pipes: slices.Clone(choices[random.Intn(len(choices))])})
				}
				list = append(list, n)
			}
		}
	}
	return list
}

// named are networks with the edge cases: full and empty pipes, pipes that nobody has, equal levels, and what the limits allow.
func named() []network {
	all := []int{0, 1, 2, 3, 4}
	six := slices.Repeat([]api.User{{Weight: 4, Pipes: all}}, 6)
	return []network{
		{[]int{10, 4}, []api.User{user(1, 0, 1), user(1, 0)}},
		{[]int{0}, []api.User{user(1, 0)}},
		{[]int{0, 7}, []api.User{user(1, 0, 1), user(3, 1)}},
		{[]int{5, 5}, []api.User{user(2, 0, 1)}},
		{[]int{9, 6, 3}, []api.User{user(1, 1)}},
		{[]int{6, 6, 6}, []api.User{user(1, 0, 1), user(1, 1, 2), user(1, 0, 2)}},
		{[]int{200, 200, 200, 200, 200}, six},
		{[]int{200, 199, 197, 193, 191}, []api.User{user(4, all...), user(3, 1, 2, 3, 4), user(4, 2, 3, 4), user(3, 3, 4), user(4, 4), user(1, 0)}},
		{[]int{1, 200, 200, 200, 200}, []api.User{user(4, all...), user(4, 0, 1), user(4, 1, 2), user(4, 2, 3), user(3, 3, 4), user(1, 4)}},
		{[]int{199, 151, 101, 53, 7}, []api.User{user(4, 0, 4), user(3, 0, 1, 4), user(4, 1, 2), user(3, 2, 3), user(4, 3), user(1, 0)}},
		{[]int{0, 0, 0, 0, 0}, six},
	}
}

// networks are all that the tests go through.
func networks() []network {
	return slices.Concat(named(), smallNetworks(), someNetworks(1, 20))
}
