package parse_test

import (
	"math"
	"math/rand"
	"slices"
	"strings"
	"testing"

	"numnah/api"
	"numnah/parse"
)

// P9.1
func TestReadByHand(t *testing.T) {
	for _, x := range []struct {
		plan    []api.Factor
		letters string
		want    string
	}{
		{nil, "", ""},
		{[]api.Factor{}, "", ""},
		{factorsOf(-1, 1), "d", "d"},
		{factorsOf(-1, 1, -1, 1, -1, 1), "aba", "aba"},
		{factorsOf(-1, 1, -1, 1, 0, 2), "ab", "abab"},
		{factorsOf(-1, 1, -1, 1, 1, 1, 0, 1), "ab", "abba"},
		{factorsOf(-1, 1, 0, 1, -1, 1, 1, 2, 0, 4), "cd", "ccdcdccdc"},
		// A copy that overlaps what it is copied from.
		{factorsOf(-1, 1, 0, 5), "a", "aaaaaa"},
		{factorsOf(-1, 1, -1, 1, 0, 5, -1, 1), "abc", "abababac"},
		{factorsOf(-1, 1, -1, 1, -1, 1, 1, 5, 7, 3), "abc", "abcbcbcbbbb"},
		{factorsOf(-1, 1, -1, 1, 1, 3, 0, 2, 5, 4), "ba", "baaaabababa"},
		{factorsOf(-1, 1, 0, 159), "c", strings.Repeat("c", 160)},
		{factorsOf(-1, 1, -1, 1, 0, 157, -1, 1), "dab", strings.Repeat("da", 79) + "db"},
		{slices.Repeat(factorsOf(-1, 1), 160), strings.Repeat("abcd", 40), strings.Repeat("abcd", 40)},
	} {
		if w, e := parse.Read(x.plan, x.letters); w != x.want || e != api.OK {
			t.Errorf("Read(%v, %s) = %s, %d, not %s", x.plan, x.letters, w, e, x.want)
		}
	}
}

func checkRead(t *testing.T, plan []api.Factor, letters string) {
	t.Helper()
	want, ok := read(plan, letters)
	if !ok {
		want = ""
	}
	if w, e := parse.Read(plan, letters); w != want || ok != (e == api.OK) || !ok && e != api.ErrArg {
		t.Errorf("Read(%v, %s) = %s, %d, not %s", plan, letters, w, e, want)
	}
}

// P9.1: all lists of up to three factors with small numbers, with up to four letters; and random ones.
func TestRead(t *testing.T) {
	var lists func(plan []api.Factor)
	lists = func(plan []api.Factor) {
		for n := range 5 {
			checkRead(t, plan, "abcd"[:n])
		}
		if len(plan) == 3 {
			return
		}
		for from := -2; from <= 4; from++ {
			for length := -1; length <= 4; length++ {
				lists(append(slices.Clip(plan), api.Factor{From: from, Length: length}))
			}
		}
	}
	lists(nil)
	random := rand.New(rand.NewSource(92))
	for range 1000 {
		var plan []api.Factor
		count, end := 0, 0
		for end < 100+random.Intn(65) {
			f := api.Factor{From: -1, Length: 1}
			if end > 0 && random.Intn(3) > 0 {
				f = api.Factor{From: random.Intn(end), Length: 1 + random.Intn(20)}
			} else {
				count++
			}
			plan = append(plan, f)
			end += f.Length
		}
		letters := someWord(random, min(count, 160), "abcd")
		checkRead(t, plan, letters)
		checkRead(t, plan, letters[1:])
		checkRead(t, plan, letters+"a")
		i := random.Intn(len(plan))
		plan[i].From += random.Intn(9) - 4
		checkRead(t, plan, letters)
	}
}

// badFactors returns lists of factors that are no plans for any word.
func badFactors() [][]api.Factor {
	return [][]api.Factor{
		// A From that is neither -1 nor a position before its factor.
		factorsOf(0, 1), factorsOf(1, 1), factorsOf(-2, 1), factorsOf(0, 5), factorsOf(-1, 1, 1, 1), factorsOf(-1, 1, -2, 1), factorsOf(-1, 1, 2, 1), factorsOf(-1, 1, 0, 1, 2, 1), factorsOf(-1, 1, 0, 3, 4, 1), factorsOf(-1, 1, 0, 3, 5, 2),
		factorsOf(math.MinInt, 1), factorsOf(math.MaxInt, 1), factorsOf(-1, 1, math.MaxInt, 1), factorsOf(-1, 1, math.MinInt, 2), factorsOf(-1, 1, 1<<32, 1), factorsOf(-1, 1, 1<<32-1, 1), factorsOf(-1, 1, -1<<32, 1),
		// A Length less than 1.
		factorsOf(-1, 0), factorsOf(-1, -1), factorsOf(-1, 1, 0, 0), factorsOf(-1, 1, 0, -1), factorsOf(-1, 1, 0, 3, 0, -2), factorsOf(-1, 1, 0, 0, -1, 1), factorsOf(-1, 1, 0, math.MinInt), factorsOf(-1, math.MinInt), {{}}, make([]api.Factor, 100000),
		// A Length other than 1 with From -1.
		factorsOf(-1, 2), factorsOf(-1, 160), factorsOf(-1, 1, -1, 2), factorsOf(-1, 1, 0, 1, -1, 3), factorsOf(-1, math.MaxInt), factorsOf(-1, 1<<32+1),
		// Lengths that add up to more than 160.
		factorsOf(-1, 1, 0, 160), factorsOf(-1, 1, 0, 80, 0, 80), factorsOf(-1, 1, 0, 159, -1, 1), factorsOf(-1, 1, 0, 159, 0, 1), slices.Repeat(factorsOf(-1, 1), 161), factorsOf(-1, 1, 0, math.MaxInt), factorsOf(-1, 1, 0, math.MaxInt-1), factorsOf(-1, 1, 0, math.MaxInt, 0, math.MaxInt, 0, 3), factorsOf(-1, 1, 0, math.MaxInt, 0, math.MinInt), factorsOf(-1, 1, 0, 1<<32), append(factorsOf(-1, 1), slices.Repeat(factorsOf(0, 1), 160)...), append(factorsOf(-1, 1), slices.Repeat(factorsOf(0, 1), 100000)...),
	}
}

// P9.1, P9.2: what is no plan at all. ErrArg for other arguments comes before ErrAnswer of Cost.
func TestWhatIsNoPlan(t *testing.T) {
	words := []string{"", "a", "aa", "aaaa", strings.Repeat("a", 159), strings.Repeat("a", 160)}
	for _, plan := range badFactors() {
		for _, w := range words {
			if u, e := parse.Read(plan, w); u != "" || e != api.ErrArg {
				t.Errorf("Read(%.200v, %s) = %s, %d", plan, w, u, e)
			}
			if c, e := parse.Cost(w, plan, 1, 100); c != 0 || e != api.ErrAnswer {
				t.Errorf("Cost(%s, %.200v) = %d, %d", w, plan, c, e)
			}
		}
	}
	// Too few and too many letters.
	for _, plan := range [][]api.Factor{nil, factorsOf(-1, 1), factorsOf(-1, 1, 0, 3), factorsOf(-1, 1, 0, 159), factorsOf(-1, 1, -1, 1, 0, 4, -1, 1), slices.Repeat(factorsOf(-1, 1), 160)} {
		count := len(plan) - len(slices.DeleteFunc(slices.Clone(plan), func(f api.Factor) bool { return f.From == -1 }))
		for n := range 161 {
			if w, e := parse.Read(plan, strings.Repeat("b", n)); (e == api.OK) != (n == count) || e != api.OK && (w != "" || e != api.ErrArg) {
				t.Errorf("Read(%.200v, %d letters) = %s, %d", plan, n, w, e)
			}
		}
	}
}

// noPrices are numbers that are no prices.
func noPrices() []int {
	return []int{0, -1, 101, -100, 1000, 1 << 32, 1<<32 + 1, math.MinInt, math.MinInt + 1, math.MaxInt}
}

// P9.2: ErrArg for prices comes before ErrAnswer.
func TestWhatIsNoPrice(t *testing.T) {
	for _, w := range []string{"", "a", "abab", strings.Repeat("a", 160)} {
		for _, n := range noPrices() {
			for _, prices := range [][2]int{{n, 1}, {1, n}, {n, 100}, {100, n}, {n, n}} {
				p, q := prices[0], prices[1]
				if l, c, e := parse.Cheapest(w, p, q); len(l) > 0 || c != 0 || e != api.ErrArg {
					t.Errorf("Cheapest(%s, %d, %d) = %v, %d, %d", w, p, q, l, c, e)
				}
				for _, plan := range [][]api.Factor{nil, copying(w), factorsOf(0, 1), factorsOf(-1, 1), factorsOf(-1, 1, -1, 1, -1, 1, -1, 1)} {
					if c, e := parse.Cost(w, plan, p, q); c != 0 || e != api.ErrArg {
						t.Errorf("Cost(%s, %v, %d, %d) = %d, %d", w, plan, p, q, c, e)
					}
				}
			}
		}
	}
}

// prices are pairs of prices, the smallest and the greatest among them.
func prices() [][2]int {
	return [][2]int{{1, 1}, {1, 100}, {100, 1}, {100, 100}, {1, 2}, {2, 1}, {2, 3}, {3, 2}, {1, 3}, {2, 7}, {5, 12}, {99, 100}, {30, 100}}
}

// P9.2
func TestCheapestByHand(t *testing.T) {
	for _, x := range []struct {
		word string
		p, q int
		cost int
	}{
		{"", 1, 1, 0},
		{"", 100, 1, 0},
		{"a", 7, 1, 7},
		{"abcd", 100, 1, 400},
		{"abab", 1, 1, 3},
		{"abab", 1, 2, 4},
		{"abab", 1, 3, 4},
		{"abab", 2, 3, 7},
		{"abab", 100, 1, 201},
		{"aa", 2, 1, 3},
		{"aa", 1, 2, 2},
		{"aaaa", 2, 3, 5},
		{"aaaa", 1, 100, 4},
		{strings.Repeat("a", 160), 1, 1, 2},
		{strings.Repeat("a", 160), 100, 1, 101},
		{strings.Repeat("a", 160), 1, 100, 101},
		{strings.Repeat("a", 160), 100, 100, 200},
		{strings.Repeat("a", 100), 1, 100, 100},
		{strings.Repeat("a", 159) + "b", 1, 100, 102},
		{strings.Repeat("abcd", 40), 100, 100, 500},
		// A copy of a single letter is worth its price only if it is cheaper.
		{"abcacb", 3, 2, 15},
		{"abcacb", 2, 3, 12},
		// Single letters before a copy may be cheaper than the longest copies.
		{"abacab", 2, 3, 11},
	} {
		plan, c, e := parse.Cheapest(x.word, x.p, x.q)
		if c != x.cost || e != api.OK || !isPlan(x.word, plan) || cost(plan, x.p, x.q) != c {
			t.Errorf("Cheapest(%s, %d, %d) = %v, %d, %d, not %d", x.word, x.p, x.q, plan, c, e, x.cost)
		}
	}
}

func checkCheapest(t *testing.T, word string, p, q, want int) {
	t.Helper()
	plan, c, e := parse.Cheapest(word, p, q)
	if c != want || e != api.OK || !isPlan(word, plan) || cost(plan, p, q) != c {
		t.Errorf("Cheapest(%s, %d, %d) = %v, %d, %d, not %d", word, p, q, plan, c, e, want)
	}
	if other, e := parse.Cost(word, plan, p, q); other != c || e != api.OK {
		t.Errorf("Cost(%s, %v, %d, %d) = %d, %d, not %d", word, plan, p, q, other, e, c)
	}
}

// P9.2, P3: Cheapest against all plans of small words, and Cost of each of them.
func TestPlansOfSmallWords(t *testing.T) {
	for _, w := range slices.Concat(wordsUpTo(5, "abcd"), wordsOf(6, "ab"), wordsOf(7, "ab")) {
		plans := plansOf(w, 0)
		for _, x := range prices() {
			p, q := x[0], x[1]
			least := math.MaxInt
			for _, plan := range plans {
				least = min(least, cost(plan, p, q))
			}
			checkCheapest(t, w, p, q, least)
		}
		for i, plan := range plans {
			if i >= 500 {
				break
			}
			if c, e := parse.Cost(w, plan, 3, 5); c != cost(plan, 3, 5) || e != api.OK {
				t.Errorf("Cost(%s, %v, 3, 5) = %d, %d", w, plan, c, e)
			}
		}
	}
}

// P9.2, P3
func TestCheapestOfLongWords(t *testing.T) {
	random := rand.New(rand.NewSource(93))
	for _, w := range longWords() {
		for range 3 {
			p, q := 1+random.Intn(100), 1+random.Intn(100)
			checkCheapest(t, w, p, q, leastCost(w, p, q))
		}
		p := 1 + random.Intn(30)
		checkCheapest(t, w, p, 3*p, leastCost(w, p, 3*p))
	}
}

// P9.2: all lists of up to four factors with small numbers, for some words; and changed plans for long words.
func TestCost(t *testing.T) {
	check := func(w string, plan []api.Factor) {
		want, err := 0, api.ErrAnswer
		if isPlan(w, plan) {
			want, err = cost(plan, 4, 9), api.OK
		}
		if c, e := parse.Cost(w, plan, 4, 9); c != want || e != err {
			t.Errorf("Cost(%s, %v, 4, 9) = %d, %d, not %d, %d", w, plan, c, e, want, err)
		}
	}
	words := []string{"", "a", "aa", "ab", "aaa", "aba", "aaab", "abab", "abca"}
	var lists func(plan []api.Factor)
	lists = func(plan []api.Factor) {
		for _, w := range words {
			check(w, plan)
		}
		if len(plan) == 4 {
			return
		}
		for from := -1; from <= 3; from++ {
			for length := range 4 {
				lists(append(slices.Clip(plan), api.Factor{From: from, Length: length}))
			}
		}
	}
	lists(nil)
	random := rand.New(rand.NewSource(94))
	for _, w := range longWords() {
		for range 20 {
			plan := copying(w)
			i := random.Intn(len(plan))
			plan[i].From = random.Intn(len(w)+1) - 1
			check(w, plan)
			check(w[1:], plan)
			check(w, plan[1:])
			check(w, append(plan, api.Factor{From: -1, Length: 1}))
			check(w, plan[:len(plan)-1])
		}
	}
}

// P9.2: plans for other words are none for this one.
func TestPlansForOtherWords(t *testing.T) {
	for _, x := range []struct {
		word string
		plan []api.Factor
	}{
		{"", factorsOf(-1, 1)},
		{"a", nil},
		{"a", factorsOf(-1, 1, -1, 1)},
		{"a", factorsOf(-1, 1, 0, 1)},
		{"aa", factorsOf(-1, 1)},
		{"aa", factorsOf(-1, 1, 0, 2)},
		{"ab", factorsOf(-1, 1, 0, 1)},
		{"abab", factorsOf(-1, 1, -1, 1, 1, 2)},
		{"abab", factorsOf(-1, 1, -1, 1, 0, 1)},
		{"abab", factorsOf(-1, 1, -1, 1, 0, 3)},
		{"ababa", factorsOf(-1, 1, -1, 1, 0, 2)},
		{"ababb", factorsOf(-1, 1, -1, 1, 0, 3)},
		{strings.Repeat("a", 159) + "b", factorsOf(-1, 1, 0, 159)},
		{strings.Repeat("a", 159), factorsOf(-1, 1, 0, 159)},
	} {
		if c, e := parse.Cost(x.word, x.plan, 1, 1); c != 0 || e != api.ErrAnswer {
			t.Errorf("Cost(%s, %v, 1, 1) = %d, %d", x.word, x.plan, c, e)
		}
	}
}
