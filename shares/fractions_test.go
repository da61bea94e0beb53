package shares_test

import (
	"math"
	"math/rand"
	"slices"
	"testing"

	"numnah/api"
	"numnah/shares"
)

// terms are all valid fractions with a Den up to the limit around 0, and those with the greatest numbers.
func terms() []api.Frac {
	var list []api.Frac
	for den := 1; den <= api.MaxShare; den++ {
		nums := []int{-1000000, -999999, 999999, 1000000}
		for num := -25; num <= 25; num++ {
			nums = append(nums, num)
		}
		for _, num := range nums {
			if f := frac(num, den); isValid(f) {
				list = append(list, f)
			}
		}
	}
	return list
}

// P7.4
func TestFractionsByHand(t *testing.T) {
	list := pairs([2]int{1, 2}, [2]int{-1, 3}, [2]int{0, 1}, [2]int{1, 2})
	if f, e := shares.Sum(list); e != api.OK || f != frac(2, 3) {
		t.Errorf("Sum(%v) = %v, %d", list, f, e)
	}
	if l, e := shares.Sorted(list); e != api.OK || !slices.Equal(l, pairs([2]int{-1, 3}, [2]int{0, 1}, [2]int{1, 2}, [2]int{1, 2})) {
		t.Errorf("Sorted(%v) = %v, %d", list, l, e)
	}
	for _, empty := range [][]api.Frac{nil, {}} {
		if f, e := shares.Sum(empty); e != api.OK || f != frac(0, 1) {
			t.Errorf("Sum(%v) = %v, %d", empty, f, e)
		}
		if l, e := shares.Sorted(empty); e != api.OK || len(l) > 0 {
			t.Errorf("Sorted(%v) = %v, %d", empty, l, e)
		}
	}
}

// P7.4
func TestCompare(t *testing.T) {
	for _, f := range terms() {
		for _, g := range terms() {
			if c, e := shares.Compare(f, g); e != api.OK || c != rat(f).Cmp(rat(g)) {
				t.Errorf("Compare(%v, %v) = %d, %d", f, g, c, e)
			}
		}
	}
}

// P7.4: lists of all lengths, and ten fractions with the greatest numbers.
func TestSumAndSorted(t *testing.T) {
	random := rand.New(rand.NewSource(15))
	all := terms()
	lists := [][]api.Frac{
		pairs([2]int{999999, 20}, [2]int{1000000, 19}, [2]int{999999, 17}, [2]int{999999, 16}, [2]int{1000000, 13}, [2]int{1000000, 11}, [2]int{1000000, 9}, [2]int{1000000, 7}, [2]int{999999, 5}, [2]int{1000000, 3}),
		slices.Repeat(pairs([2]int{1000000, 1}), 10), slices.Repeat(pairs([2]int{-1000000, 1}), 10), slices.Repeat(pairs([2]int{-999999, 20}), 10),
	}
	for range 300 {
		for length := range api.MaxHeirs + 1 {
			var list []api.Frac
			for range length {
				list = append(list, all[random.Intn(len(all))])
			}
			lists = append(lists, list)
		}
	}
	for _, list := range lists {
		if f, e := shares.Sum(list); e != api.OK || !isThat(f, total(rats(list))) {
			t.Errorf("Sum(%v) = %v, %d", list, f, e)
		}
		l, e := shares.Sorted(list)
		if e != api.OK || len(l) != len(list) {
			t.Fatalf("Sorted(%v) = %v, %d", list, l, e)
		}
		for i := range l {
			if i > 0 && rat(l[i-1]).Cmp(rat(l[i])) > 0 || occurrences(l, l[i]) != occurrences(list, l[i]) {
				t.Errorf("Sorted(%v) = %v", list, l)
			}
		}
	}
}

func occurrences(list []api.Frac, f api.Frac) int {
	count := 0
	for _, g := range list {
		if f == g {
			count++
		}
	}
	return count
}

// P7.4
func TestFractionErrors(t *testing.T) {
	half := frac(1, 2)
	for _, f := range pairs(
		[2]int{0, 0}, [2]int{0, 2}, [2]int{1, 0}, [2]int{2, 2}, [2]int{2, 4}, [2]int{-2, 4}, [2]int{0, -1}, [2]int{-1, -1}, [2]int{1, -1}, [2]int{20, 20},
		[2]int{1, 21}, [2]int{-1, 21}, [2]int{20, 21}, [2]int{1000001, 1}, [2]int{-1000001, 1}, [2]int{1000001, 20}, [2]int{-1000001, 20}, [2]int{1, 100},
		[2]int{math.MinInt, 1}, [2]int{math.MaxInt, 1}, [2]int{1, math.MinInt}, [2]int{1, math.MaxInt}, [2]int{math.MinInt, math.MinInt}, [2]int{math.MaxInt, math.MaxInt}, [2]int{math.MinInt, -1}, [2]int{math.MinInt, math.MaxInt}, [2]int{1 << 32, 1}, [2]int{1, 1<<32 + 1},
	) {
		for _, pair := range [][2]api.Frac{{f, half}, {half, f}, {f, f}} {
			if c, e := shares.Compare(pair[0], pair[1]); e != api.ErrArg || c != 0 {
				t.Errorf("Compare%v = %d, %d", pair, c, e)
			}
		}
		for _, list := range [][]api.Frac{{f}, {f, half}, {half, f}, append(slices.Repeat([]api.Frac{half}, 9), f)} {
			checkNoTerms(t, list)
		}
	}
	checkNoTerms(t, slices.Repeat([]api.Frac{half}, 11))
	checkNoTerms(t, slices.Repeat([]api.Frac{half}, 100000))
	checkNoTerms(t, make([]api.Frac, 11))
}

func checkNoTerms(t *testing.T, list []api.Frac) {
	t.Helper()
	if f, e := shares.Sum(list); e != api.ErrArg || f != (api.Frac{}) {
		t.Errorf("Sum(%.100v) = %v, %d", list, f, e)
	}
	if l, e := shares.Sorted(list); e != api.ErrArg || len(l) > 0 {
		t.Errorf("Sorted(%.100v) = %v, %d", list, l, e)
	}
}
