package strip_test

import (
	"math/big"
	"math/rand"
	"slices"

	"numnah/api"
)

// The helpers of this file follow the definitions of the chapter word by word, without regard to time, so that the tests hold the package against them.

// square returns q lists of q numbers.
func square(q int, number func(a, b int) int) [][]int {
	lists := make([][]int, q)
	for a := range lists {
		for b := range q {
			lists[a] = append(lists[a], number(a, b))
		}
	}
	return lists
}

func one(int, int) int { return 1 }

func zero(int, int) int { return 0 }

func unlessSame(a, b int) int {
	if a == b {
		return 0
	}
	return 1
}

func unlessBothOne(a, b int) int {
	return 1 - a*b
}

func upwards(a, b int) int {
	if a < b {
		return 1
	}
	return 0
}

// free is the rule by which every strip is kept.
func free(q int) api.Rule {
	return api.Rule{Q: q, Beside: square(q, one), Below: square(q, one)}
}

// hardSquares is the rule of the chapter's first example.
func hardSquares() api.Rule {
	return api.Rule{Q: 2, Beside: square(2, unlessBothOne), Below: square(2, unlessBothOne)}
}

// proper is the rule of the chapter's second example: no colour is beside or below itself.
func proper() api.Rule {
	return api.Rule{Q: 3, Beside: square(3, unlessSame), Below: square(3, unlessSame)}
}

// falling is the rule of the chapter's third example.
func falling() api.Rule {
	return api.Rule{Q: 2, Beside: square(2, one), Below: square(2, upwards)}
}

// ruleOf is the rule whose numbers are the binary digits of x.
func ruleOf(q, x int) api.Rule {
	digit := func(int, int) int {
		d := x & 1
		x >>= 1
		return d
	}
	beside := square(q, digit)
	return api.Rule{Q: q, Beside: beside, Below: square(q, digit)}
}

// smallRules returns all rules of one and of two colours.
func smallRules() []api.Rule {
	var rules []api.Rule
	for q := 1; q <= 2; q++ {
		for x := range 1 << (2 * q * q) {
			rules = append(rules, ruleOf(q, x))
		}
	}
	return rules
}

// someRules returns rules of three colours, the same ones each time: with few, with half, and with many numbers 1.
func someRules(count int) []api.Rule {
	random := rand.New(rand.NewSource(int64(count)))
	rules := []api.Rule{proper(), free(3), {Q: 3, Beside: square(3, one), Below: square(3, upwards)}}
	for i := range count {
		x, y := random.Intn(1<<18), random.Intn(1<<18)
		rules = append(rules, ruleOf(3, [3]int{x, x & y, x | y}[i%3]))
	}
	return rules
}

// words returns all strings of a length of the digits of q colours, in ascending order.
func words(length, q int) []string {
	list := []string{""}
	for range length {
		var longer []string
		for _, w := range list {
			for a := range q {
				longer = append(longer, w+string(rune('0'+a)))
			}
		}
		list = longer
	}
	return list
}

// cut returns the string's parts of m digits.
func cut(word string, m int) []string {
	strip := []string{}
	for i := 0; i < len(word); i += m {
		strip = append(strip, word[i:i+m])
	}
	return strip
}

func mayStand(lists [][]int, a, b byte) bool {
	return lists[a-'0'][b-'0'] == 1
}

// isKept reports whether all neighbors of a strip may stand as they do.
func isKept(r api.Rule, strip []string) bool {
	for i, row := range strip {
		for j := range len(row) {
			if j > 0 && !mayStand(r.Beside, row[j-1], row[j]) {
				return false
			}
			if i > 0 && !mayStand(r.Below, strip[i-1][j], row[j]) {
				return false
			}
		}
	}
	return true
}

// isBelow reports whether a row may stand below another one.
func isBelow(r api.Rule, above, row string) bool {
	for j := range len(row) {
		if !mayStand(r.Below, above[j], row[j]) {
			return false
		}
	}
	return true
}

func isRing(r api.Rule, strip []string) bool {
	return len(strip) > 0 && isKept(r, strip) && isBelow(r, strip[len(strip)-1], strip[0])
}

// kept returns all strips of m columns and n rows that keep the rule, in ascending order.
func kept(r api.Rule, m, n int) [][]string {
	var strips [][]string
	for _, word := range words(m*n, r.Q) {
		if strip := cut(word, m); isKept(r, strip) {
			strips = append(strips, strip)
		}
	}
	return strips
}

// walks has the rows that keep a rule, and for each which rows may stand below it.
type walks struct {
	rows  []string
	below [][]bool
}

func walksOf(r api.Rule, m int) walks {
	var w walks
	for _, word := range words(m, r.Q) {
		if isKept(r, []string{word}) {
			w.rows = append(w.rows, word)
		}
	}
	for _, above := range w.rows {
		var below []bool
		for _, row := range w.rows {
			below = append(below, isBelow(r, above, row))
		}
		w.below = append(w.below, below)
	}
	return w
}

// from returns the numbers of walks of so many steps from a row to each row.
func (w walks) from(first, steps int) []*big.Int {
	numbers := make([]*big.Int, len(w.rows))
	for i := range numbers {
		numbers[i] = new(big.Int)
	}
	numbers[first].SetInt64(1)
	for range steps {
		numbers = w.oneMore(numbers)
	}
	return numbers
}

func (w walks) oneMore(numbers []*big.Int) []*big.Int {
	longer := make([]*big.Int, len(numbers))
	for j := range longer {
		longer[j] = new(big.Int)
		for i, number := range numbers {
			if w.below[i][j] {
				longer[j].Add(longer[j], number)
			}
		}
	}
	return longer
}

func total(numbers []*big.Int) *big.Int {
	sum := new(big.Int)
	for _, number := range numbers {
		sum.Add(sum, number)
	}
	return sum
}

// reached is which rows are reached by so many steps from the rows of a set.
func (w walks) reached(set []bool, steps int) []bool {
	for range steps {
		next := make([]bool, len(set))
		for i, in := range set {
			for j := range next {
				next[j] = next[j] || in && w.below[i][j]
			}
		}
		set = next
	}
	return set
}

// only is the set of one row.
func (w walks) only(row string) []bool {
	set := make([]bool, len(w.rows))
	set[slices.Index(w.rows, row)] = true
	return set
}

// brings is what a strip brings.
func brings(weights [][][]int, strip []string) int {
	sum := 0
	for i, row := range strip {
		for j := range len(row) {
			sum += weights[i][j][row[j]-'0']
		}
	}
	return sum
}

// weightsOf returns weights from -most to most.
func weightsOf(random *rand.Rand, q, m, n, most int) [][][]int {
	weights := make([][][]int, n)
	for i := range weights {
		weights[i] = make([][]int, m)
		for j := range weights[i] {
			weights[i][j] = make([]int, q)
			for a := range q {
				weights[i][j][a] = random.Intn(2*most+1) - most
			}
		}
	}
	return weights
}
