package sample_test

import (
	"math/big"
	"math/bits"
	"math/rand"

	"numnah/api"
)

// The helpers of this file follow the definitions of the chapter word by word, without regard to time, so that the tests hold the package against them: for small lots by going through all ways to place the bad pieces, for great ones by drawing piece after piece with the chances that the next one is bad.

// verdict is what a plan says after some pieces.
type verdict int

const (
	goesOn verdict = iota
	accepts
	rejects
)

// says is a plan: what it says after i pieces, k of which are bad.
type says func(i, k int) verdict

func singleSays(n, c int) says {
	return func(i, k int) verdict {
		switch {
		case i < n:
			return goesOn
		case k <= c:
			return accepts
		}
		return rejects
	}
}

func doubleSays(plan [5]int) says {
	n1, c1, r1, n2, c2 := plan[0], plan[1], plan[2], plan[3], plan[4]
	return func(i, k int) verdict {
		switch {
		case i == n1 && k <= c1, i == n1+n2 && k <= c2:
			return accepts
		case i == n1 && k >= r1, i == n1+n2:
			return rejects
		}
		return goesOn
	}
}

func courseSays(c api.Course) says {
	return func(i, k int) verdict {
		switch {
		case i == 0:
			return goesOn
		case k <= c.Accept[i-1]:
			return accepts
		case k >= c.Reject[i-1]:
			return rejects
		}
		return goesOn
	}
}

// tally is what a plan does with a lot: its chances to accept and to reject after each number of pieces, the mean number of pieces, and the mean number of bad pieces that it accepts unseen.
type tally struct {
	accepted, rejected []*big.Rat
	mean, left         *big.Rat
}

func newTally(lot int) *tally {
	t := &tally{mean: new(big.Rat), left: new(big.Rat)}
	for range lot + 1 {
		t.accepted = append(t.accepted, new(big.Rat))
		t.rejected = append(t.rejected, new(big.Rat))
	}
	return t
}

func (t *tally) add(v verdict, i, unseen int, chance *big.Rat) {
	if v == accepts {
		t.accepted[i].Add(t.accepted[i], chance)
		t.left.Add(t.left, new(big.Rat).Mul(chance, whole(unseen)))
	} else {
		t.rejected[i].Add(t.rejected[i], chance)
	}
	t.mean.Add(t.mean, new(big.Rat).Mul(chance, whole(i)))
}

func sumOf(list []*big.Rat) *big.Rat {
	sum := new(big.Rat)
	for _, x := range list {
		sum.Add(sum, x)
	}
	return sum
}

// chance is that of accepting.
func (t *tally) chance() *big.Rat {
	return sumOf(t.accepted)
}

func whole(x int) *big.Rat {
	return big.NewRat(int64(x), 1)
}

// isThat reports whether a fraction is valid and has the value.
func isThat(f api.Frac, x *big.Rat) bool {
	return f.Den >= 1 && x.Num().IsInt64() && x.Denom().IsInt64() && int64(f.Num) == x.Num().Int64() && int64(f.Den) == x.Denom().Int64()
}

// placings returns all ways to place the bad pieces; the place i of a way is bad if its binary digit with the value 2^i is 1.
func placings(lot, bad int) []uint {
	var ways []uint
	for way := range uint(1) << lot {
		if bits.OnesCount(way) == bad {
			ways = append(ways, way)
		}
	}
	return ways
}

// examine goes through a way until the plan has ended, and returns how it ends, after how many pieces, and how many of them were bad.
func examine(way uint, plan says) (verdict, int, int) {
	k := 0
	for i := 0; ; i++ {
		if v := plan(i, k); v != goesOn {
			return v, i, k
		}
		k += int(way >> i & 1)
	}
}

// enumerated follows the plan in all ways.
func enumerated(lot, bad int, plan says) *tally {
	t := newTally(lot)
	ways := placings(lot, bad)
	each := big.NewRat(1, int64(len(ways)))
	for _, way := range ways {
		v, i, k := examine(way, plan)
		t.add(v, i, bad-k, each)
	}
	return t
}

// drawn follows the plan with the chances that the next piece is bad.
func drawn(lot, bad int, plan says) *tally {
	t := newTally(lot)
	at := map[int]*big.Rat{0: whole(1)}
	for i := 0; len(at) > 0; i++ {
		next := map[int]*big.Rat{}
		for k, chance := range at {
			if v := plan(i, k); v != goesOn {
				t.add(v, i, bad-k, chance)
				continue
			}
			for worse, rest := range [2]int{lot - i - (bad - k), bad - k} {
				if rest == 0 {
					continue
				}
				part := new(big.Rat).Mul(chance, big.NewRat(int64(rest), int64(lot-i)))
				if before := next[k+worse]; before != nil {
					part.Add(part, before)
				}
				next[k+worse] = part
			}
		}
		at = next
	}
	return t
}

// singles returns all single plans n, c for a lot.
func singles(lot int) [][2]int {
	var plans [][2]int
	for n := 1; n <= lot; n++ {
		for c := range n {
			plans = append(plans, [2]int{n, c})
		}
	}
	return plans
}

// isDouble reports whether five numbers, none of which is far outside of the limits, are a double plan for a lot.
func isDouble(lot int, plan [5]int) bool {
	n1, c1, r1, n2, c2 := plan[0], plan[1], plan[2], plan[3], plan[4]
	return n1 >= 1 && n2 >= 1 && n1+n2 <= lot && 0 <= c1 && c1+1 < r1 && r1 <= n1+1 && r1-1 <= c2 && c2 < n1+n2
}

// doubles returns all double plans for a lot.
func doubles(lot int) [][5]int {
	var plans [][5]int
	for n1 := 1; n1 < lot; n1++ {
		for n2 := 1; n1+n2 <= lot; n2++ {
			for c1 := range n1 {
				for r1 := c1 + 2; r1 <= n1+1; r1++ {
					for c2 := r1 - 1; c2 < n1+n2; c2++ {
						plans = append(plans, [5]int{n1, c1, r1, n2, c2})
					}
				}
			}
		}
	}
	return plans
}

// someDouble returns a double plan for a lot of at least 2.
func someDouble(random *rand.Rand, lot int) [5]int {
	n1 := 1 + random.Intn(lot-1)
	n2 := 1 + random.Intn(lot-n1)
	c1 := random.Intn(n1)
	r1 := c1 + 2 + random.Intn(n1-c1)
	return [5]int{n1, c1, r1, n2, r1 - 1 + random.Intn(n1+n2-r1+1)}
}

// courses returns all courses of a length.
func courses(length int) []api.Course {
	list := []api.Course{{}}
	for i := range length {
		var longer []api.Course
		for _, c := range list {
			for a := -1; a <= length; a++ {
				for r := a + 1; r <= length+1; r++ {
					if i < length-1 || r == a+1 {
						longer = append(longer, api.Course{Accept: appended(c.Accept, a), Reject: appended(c.Reject, r)})
					}
				}
			}
		}
		list = longer
	}
	return list
}

func appended(list []int, x int) []int {
	return append(append([]int{}, list...), x)
}

// someCourse returns a course for a lot: some have far boundaries, some near ones, so that they end late, and early.
func someCourse(random *rand.Rand, lot int) api.Course {
	var c api.Course
	length := 1 + random.Intn(lot)
	far := random.Intn(3)
	for i := range length {
		a := -1 + random.Intn(length+2)
		if far > 0 {
			a = max(-1, i*random.Intn(3)/(2+far)-far)
		}
		r := a + 1 + random.Intn(length+1-a)
		if far > 0 {
			r = min(length+1, a+1+random.Intn(3+far*2))
		}
		if i == length-1 {
			r = a + 1
		}
		c.Accept, c.Reject = append(c.Accept, a), append(c.Reject, r)
	}
	return c
}
