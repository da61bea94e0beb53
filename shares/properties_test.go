package shares_test

import (
	"math/big"
	"math/rand"
	"slices"
	"testing"

	"numnah/api"
	"numnah/shares"
)

func awarded(t *testing.T, rule int, h heirs) []api.Frac {
	t.Helper()
	l, e := shares.Award(rule, h.claims, h.estate)
	if e != api.OK || len(l) != len(h.claims) {
		t.Fatalf("Award(%d, %v, %d) = %v, %d", rule, h.claims, h.estate, l, e)
	}
	return l
}

// P7.5: the Talmud award agrees with the contested garment for every two, and no other award does.
func TestTalmudAgrees(t *testing.T) {
	for _, h := range slices.Concat(smallHeirs(), someHeirs(7, 30)) {
		talmud := awarded(t, 3, h)
		if p, is, e := shares.Agrees(h.claims, h.estate, talmud); e != api.OK || !is || p != [2]int{} {
			t.Errorf("Agrees(%v, %d, %v) = %v, %v, %d", h.claims, h.estate, talmud, p, is, e)
		}
	}
	for _, claims := range tuples(3, 3) {
		for estate := range sumOf(claims) + 1 {
			h := heirs{claims, estate}
			talmud := awarded(t, 3, h)
			for _, shared := range awards(h, 6) {
				if _, is, e := shares.Agrees(claims, estate, fracs(shared)); e != api.OK || is != slices.Equal(talmud, fracs(shared)) {
					t.Errorf("Agrees(%v, %d, %v) = %v, %d", claims, estate, shared, is, e)
				}
			}
		}
	}
}

// P7.5: for two claims the Talmud award is that of the contested garment.
func TestTalmudOfTwo(t *testing.T) {
	for _, claims := range append(tuples(2, 9), []int{1000, 777}) {
		for estate := range sumOf(claims) + 1 {
			f, g, e := shares.Garment(estate, claims[0], claims[1])
			if talmud := awarded(t, 3, heirs{claims, estate}); e != api.OK || !slices.Equal(talmud, []api.Frac{f, g}) {
				t.Errorf("Garment(%d, %v) = %v, %v, %d, not %v", estate, claims, f, g, e, talmud)
			}
		}
	}
}

// P7.5: the rules 2 and 1, the rule 3 and itself, and (so that the test is one of something) not the rule 4 and itself.
func TestWhatIsLost(t *testing.T) {
	piniles := true
	for _, h := range slices.Concat(smallHeirs(), someHeirs(8, 30)) {
		rest := heirs{h.claims, sumOf(h.claims) - h.estate}
		isLost := func(rule, other int) bool {
			for i, f := range awarded(t, rule, h) {
				if !isThat(f, minus(whole(h.claims[i]), rat(awarded(t, other, rest)[i]))) {
					return false
				}
			}
			return true
		}
		if !isLost(2, 1) || !isLost(1, 2) || !isLost(3, 3) || !isLost(0, 0) {
			t.Errorf("the rules for %v and %v", h, rest)
		}
		piniles = piniles && isLost(4, 4)
	}
	if piniles {
		t.Errorf("the rule 4 is as the rule 3")
	}
}

// P7.5: all rules keep the order of the claims, and give nobody less if the estate grows.
func TestOrderAndGrowth(t *testing.T) {
	for _, h := range slices.Concat(smallHeirs(), someHeirs(9, 20)) {
		for rule := range 5 {
			l := awarded(t, rule, h)
			if total(rats(l)).Cmp(whole(h.estate)) != 0 {
				t.Errorf("Award(%d, %v, %d) = %v: another sum", rule, h.claims, h.estate, l)
			}
			for i, f := range l {
				if f.Num < 0 || rat(f).Cmp(whole(h.claims[i])) > 0 {
					t.Errorf("Award(%d, %v, %d) = %v: no award", rule, h.claims, h.estate, l)
				}
				for j, g := range l {
					if h.claims[i] <= h.claims[j] && rat(f).Cmp(rat(g)) > 0 {
						t.Errorf("Award(%d, %v, %d) = %v: not in the order of the claims", rule, h.claims, h.estate, l)
					}
				}
			}
			if h.estate == sumOf(h.claims) {
				continue
			}
			for i, f := range awarded(t, rule, heirs{h.claims, h.estate + 1}) {
				if rat(f).Cmp(rat(l[i])) < 0 {
					t.Errorf("Award(%d, %v, %d): less of more", rule, h.claims, h.estate+1)
				}
			}
		}
	}
}

func smallest(list []*big.Rat) *big.Rat {
	least := list[0]
	for _, r := range list {
		least = smaller(least, r)
	}
	return least
}

// P7.5: in the rule 1 no award makes the smallest share greater.
func TestSmallestShare(t *testing.T) {
	for _, claims := range slices.Concat(tuples(1, 4), tuples(2, 4), tuples(3, 3)) {
		for estate := range sumOf(claims) + 1 {
			h := heirs{claims, estate}
			least := smallest(rats(awarded(t, 1, h)))
			for _, shared := range awards(h, 6) {
				if smallest(shared).Cmp(least) > 0 {
					t.Errorf("Award(1, %v, %d): the smallest share of %v is greater", claims, estate, shared)
				}
			}
		}
	}
}

// checkNoBetter checks that every user that has more in other possible rates has it from one whose level was not greater.
func checkNoBetter(t *testing.T, n network, fair, other []*big.Rat) {
	t.Helper()
	for i := range fair {
		if other[i].Cmp(fair[i]) <= 0 {
			continue
		}
		hurt := false
		for j := range fair {
			hurt = hurt || n.level(j, fair).Cmp(n.level(i, fair)) <= 0 && other[j].Cmp(fair[j]) < 0
		}
		if !hurt {
			t.Errorf("%v: %d has more in %v than in %v", n, i, other, fair)
		}
	}
}

// P7.5: in fair rates no user can have more unless one whose level is not greater has less.
func TestNobodyCanHaveMore(t *testing.T) {
	random := rand.New(rand.NewSource(16))
	for _, n := range slices.Concat(named(), smallNetworks(), someNetworks(16, 20)) {
		rates, _, e := shares.Fair(n.pipes, n.users)
		if e != api.OK {
			t.Fatalf("Fair(%v): %d", n, e)
		}
		fair := rats(rates)
		for range 10 {
			other := rats(rates)
			// One user gives all or some away, and the others take what they can in turn.
			i := random.Intn(len(fair))
			other[i] = times(other[i], big.NewRat(int64(random.Intn(3)), 2))
			for _, j := range random.Perm(len(fair)) {
				if j != i {
					other[j] = n.most(j, other)
				}
			}
			if n.arePossible(other) {
				checkNoBetter(t, n, fair, other)
			}
		}
	}
}

// most is the greatest rate of a user that is possible if the others keep theirs.
func (n network) most(user int, rates []*big.Rat) *big.Rat {
	var most *big.Rat
	loads := n.loads(rates)
	for _, p := range n.users[user].Pipes {
		room := plus(minus(whole(n.pipes[p]), loads[p]), rates[user])
		if most == nil || room.Cmp(most) < 0 {
			most = room
		}
	}
	return greater(most, new(big.Rat))
}

// P7.5: with one pipe and weights 1 the fair rates are all equal, and with other weights the levels are.
func TestOnePipe(t *testing.T) {
	for capacity := range api.MaxFlow + 1 {
		for count := 1; count <= api.MaxUsers; count++ {
			users := slices.Repeat([]api.User{user(1, 0)}, count)
			rates, holds, e := shares.Fair([]int{capacity}, users)
			for i, f := range rates {
				if e != api.OK || !isThat(f, big.NewRat(int64(capacity), int64(count))) || holds[i] != 0 {
					t.Errorf("Fair(%d, %d users) = %v, %v, %d", capacity, count, rates, holds, e)
				}
				users[i].Weight = 1 + (i+capacity)%api.MaxHeavy
			}
			n := network{[]int{capacity}, users}
			heavy, _, e := shares.Fair(n.pipes, n.users)
			for i := range heavy {
				if e != api.OK || n.level(i, rats(heavy)).Cmp(n.level(0, rats(heavy))) != 0 {
					t.Errorf("Fair(%v) = %v, %d", n, heavy, e)
				}
			}
		}
	}
}
