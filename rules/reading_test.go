package rules_test

import (
	"math"
	"math/rand"
	"slices"
	"testing"

	"numnah/api"
	"numnah/rules"
)

// least and most have the smallest and the greatest numbers.
func least() [][]int { return read(0, 0, 0, 1, 0, 1, 0, 1, 1, 0, 1, 1) }
func most() [][]int  { return read(2, 2, 2, 2, 2, 2, 2, 2, 2, 2, 2, 2) }

// P8.3
func TestValueByHand(t *testing.T) {
	mixed := read(1, 2, 0, 2, 1, 1, 2, 1, 2, 0, 2, 1)
	for _, x := range []struct {
		reading [][]int
		term    string
		want    [4]int
	}{
		{least(), "a", [4]int{}},
		{most(), "a", [4]int{2, 0, 0, 0}},
		{least(), "x", [4]int{0, 1, 0, 0}},
		{most(), "y", [4]int{0, 0, 1, 0}},
		{mixed, "z", [4]int{0, 0, 0, 1}},
		{mixed, "a", [4]int{1, 0, 0, 0}},
		{mixed, "b", [4]int{2, 0, 0, 0}},
		{mixed, "c(x)", [4]int{0, 2, 0, 0}},
		{mixed, "d(x)", [4]int{1, 1, 0, 0}},
		{mixed, "e(x,y)", [4]int{2, 1, 2, 0}},
		{mixed, "f(x,y)", [4]int{0, 2, 1, 0}},
		{mixed, "e(x,x)", [4]int{2, 3, 0, 0}},
		{mixed, "c(d(e(z,a)))", [4]int{10, 0, 0, 2}},
		{mixed, "f(e(x,y),e(y,f(z,b)))", [4]int{2*2 + 2 + 2*2, 2, 5, 4}},
		{most(), chain(11, "x"), [4]int{4094, 2048, 0, 0}},
		{least(), chain(11, "x"), [4]int{0, 1, 0, 0}},
		{most(), chain(11, "a"), [4]int{8190, 0, 0, 0}},
	} {
		if v, e := rules.Value(x.reading, x.term); v != x.want || e != api.OK {
			t.Errorf("Value(%v, %s) = %v, %d", x.reading, x.term, v, e)
		}
	}
}

// someReadings are the extreme readings, and random ones.
func someReadings(seed int64, count int) [][][]int {
	random := rand.New(rand.NewSource(seed))
	all := allReadings()
	list := [][][]int{least(), most()}
	for range count {
		list = append(list, all[random.Intn(len(all))])
	}
	return list
}

func checkValue(t *testing.T, reading [][]int, term string) {
	t.Helper()
	v, e := rules.Value(reading, term)
	if size(term) > 12 {
		if v != [4]int{} || e != api.ErrFull {
			t.Errorf("Value(%v, %s) = %v, %d", reading, term, v, e)
		}
		return
	}
	for _, values := range [][3]int{{}, {1, 0, 0}, {0, 1, 0}, {0, 0, 1}, {3, 1000, 7}} {
		if want := eval(reading, parse(term), values); e != api.OK || v[0]+v[1]*values[0]+v[2]*values[1]+v[3]*values[2] != want {
			t.Errorf("Value(%v, %s) = %v, %d: not %d at %v", reading, term, v, e, want, values)
		}
	}
}

// P8.3: the value as it is defined, for small terms and for those of exactly 12 symbols and variables, and of one more.
func TestValue(t *testing.T) {
	random := rand.New(rand.NewSource(8))
	for _, reading := range someReadings(8, 30) {
		for _, term := range termsUpTo(3, "abcdefxyz") {
			checkValue(t, reading, term)
		}
		for n := 4; n <= 13; n++ {
			for range 10 {
				checkValue(t, reading, someTerm(random, n, "abxyz"))
			}
		}
		for _, term := range []string{chain(11, "z"), chain(12, "z"), "c(" + comb(6) + ")", comb(7), chain(59, "a"), comb(30)} {
			checkValue(t, reading, term)
		}
	}
}

// noReadings are lists that are no readings.
func noReadings() [][][]int {
	lists := [][][]int{nil, {}, {nil}, make([][]int, 6), make([][]int, 5), make([][]int, 100000), least()[:5], append(least(), []int{0}), append(least(), nil), most()[1:], {{0}, {0}, {0, 1}, {0, 1}, {0, 1, 1}, nil}, {nil, {0}, {0, 1}, {0, 1}, {0, 1, 1}, {0, 1, 1}}}
	for _, good := range [][][]int{least(), most()} {
		for symbol := range good {
			for _, list := range [][]int{nil, {}, good[symbol][1:], append(slices.Clone(good[symbol]), 1), make([]int, 100000)} {
				changed := slices.Clone(good)
				changed[symbol] = list
				lists = append(lists, changed)
			}
			for place := range good[symbol] {
				for _, n := range []int{-1, 3, math.MinInt, math.MaxInt, 1 << 32, 1<<32 + 1, 0} {
					if n == 0 && place == 0 {
						continue
					}
					changed := slices.Clone(good)
					changed[symbol] = slices.Clone(good[symbol])
					changed[symbol][place] = n
					lists = append(lists, changed)
				}
			}
		}
	}
	return lists
}

// P8.3: ErrArg for what is no reading comes before ErrSyntax, and this before ErrFull.
func TestReadingErrors(t *testing.T) {
	for _, reading := range noReadings() {
		for _, term := range []string{"a", "x", "", "c", "c(c(x))", comb(7), comb(31)} {
			if v, e := rules.Value(reading, term); v != [4]int{} || e != api.ErrArg {
				t.Errorf("Value(%.200v, %s) = %v, %d", reading, term, v, e)
			}
		}
		for _, list := range append(named(), laws("c(x)>x"), laws("x>a")) {
			if e := rules.Decreases(list, reading); e != api.ErrArg {
				t.Errorf("Decreases(%v, %.200v) = %d", list, reading, e)
			}
		}
	}
	for _, s := range noTerms() {
		if v, e := rules.Value(least(), s); v != [4]int{} || e != api.ErrSyntax {
			t.Errorf("Value(%.100q) = %v, %d", s, v, e)
		}
	}
}

// P8.3
func TestDecreasesByHand(t *testing.T) {
	for _, x := range []struct {
		reading [][]int
		rules   []api.Law
		want    api.Errno
	}{
		{least(), nil, api.OK},
		{most(), []api.Law{}, api.OK},
		{read(0, 0, 1, 1, 0, 1, 0, 1, 1, 0, 1, 1), laws("c(x)>d(x)"), api.OK},
		{least(), laws("c(x)>d(x)"), api.ErrAnswer},
		{least(), laws("c(x)>x"), api.ErrAnswer},
		{read(0, 0, 0, 2, 0, 1, 0, 1, 1, 0, 1, 1), laws("c(x)>x"), api.ErrAnswer},
		{read(0, 0, 2, 1, 1, 2, 0, 1, 1, 0, 1, 1), laws("c(x)>d(x)"), api.ErrAnswer},
		{read(0, 0, 2, 2, 1, 1, 0, 1, 1, 0, 1, 1), laws("c(x)>d(x)"), api.OK},
		{read(1, 0, 0, 1, 0, 1, 0, 1, 1, 0, 1, 1), laws("a>b"), api.OK},
		{read(1, 0, 0, 1, 0, 1, 0, 1, 1, 0, 1, 1), laws("a>b", "a>a"), api.ErrAnswer},
		{read(1, 0, 0, 1, 0, 1, 0, 1, 1, 0, 1, 1), laws("a>a", "a>b"), api.ErrAnswer},
		{read(0, 0, 0, 1, 0, 1, 1, 1, 1, 0, 1, 1), laws("e(x,y)>f(y,x)"), api.OK},
		{read(0, 0, 0, 1, 0, 1, 1, 1, 1, 0, 2, 1), laws("e(x,y)>f(y,x)"), api.ErrAnswer},
		{read(0, 0, 0, 1, 0, 1, 1, 1, 2, 0, 2, 1), laws("e(x,y)>f(y,x)"), api.OK},
		{read(0, 0, 0, 1, 0, 1, 1, 2, 1, 0, 1, 1), laws("e(e(x,y),z)>e(x,e(y,z))"), api.OK},
		{read(0, 0, 0, 1, 0, 1, 1, 1, 2, 0, 1, 1), laws("e(e(x,y),z)>e(x,e(y,z))"), api.ErrAnswer},
	} {
		if e := rules.Decreases(x.rules, x.reading); e != x.want {
			t.Errorf("Decreases(%v, %v) = %d", x.rules, x.reading, e)
		}
	}
}

func checkDecreases(t *testing.T, list []api.Law, reading [][]int) {
	t.Helper()
	want := api.ErrAnswer
	if decreases(list, reading) {
		want = api.OK
	}
	if e := rules.Decreases(list, reading); e != want {
		t.Errorf("Decreases(%v, %v) = %d", list, reading, e)
	}
}

// P8.3
func TestDecreases(t *testing.T) {
	random := rand.New(rand.NewSource(9))
	for _, reading := range someReadings(9, 100) {
		for _, list := range named() {
			checkDecreases(t, list, reading)
		}
		for i := range 60 {
			checkDecreases(t, someLaws(random, 1+i%2, 1+i%6), reading)
		}
		for range 5 {
			checkDecreases(t, someLaws(random, 1, 12), reading)
		}
	}
	for _, reading := range someReadings(10, 5) {
		for _, l := range smallLaws(3, "acefx") {
			checkDecreases(t, []api.Law{l}, reading)
		}
	}
}

// hasReading tries all readings.
func hasReading(list []api.Law, all [][][]int) bool {
	var sides [][2]tree
	for _, l := range list {
		sides = append(sides, [2]tree{parse(l.Left), parse(l.Right)})
	}
	return slices.ContainsFunc(all, func(reading [][]int) bool {
		for _, s := range sides {
			// First what fails most often.
			if eval(reading, s[0], [3]int{}) <= eval(reading, s[1], [3]int{}) {
				return false
			}
		}
		return decreases(list, reading)
	})
}

// checkReading checks what Reading returns, and that there is none if it returns none.
func checkReading(t *testing.T, list []api.Law, all [][][]int) {
	t.Helper()
	reading, e := rules.Reading(list)
	if e == api.OK && (rules.Decreases(list, reading) != api.OK || !decreases(list, reading)) {
		t.Errorf("Reading(%v) = %v, which does not decrease them", list, reading)
	}
	if e != api.OK && (e != api.ErrNone || len(reading) > 0 || hasReading(list, all)) {
		t.Errorf("Reading(%v) = %v, %d", list, reading, e)
	}
}

// P8.3, P3
func TestReading(t *testing.T) {
	all := allReadings()
	for _, list := range named() {
		checkReading(t, list, all)
	}
	for _, list := range [][]api.Law{laws("e(a,x)>a", "e(c(x),y)>f(y,e(x,y))", "f(a,x)>x"), laws("c(d(x))>d(c(c(x)))"), laws("c(x)>d(d(x))"), laws("a>c(c(b))"), laws("d(x)>c(b)", "c(x)>x")} {
		checkReading(t, list, all)
	}
	random := rand.New(rand.NewSource(11))
	for i := range 60 {
		checkReading(t, someLaws(random, 1+i%3, 2+i%4), all)
	}
	for range 60 {
		// All that this reading decreases, so that there is one.
		reading := all[random.Intn(len(all))]
		var list []api.Law
		for range 100 {
			if l := someLaws(random, 1, 5); len(list) < 6 && decreases(l, reading) {
				list = append(list, l...)
			}
		}
		if _, e := rules.Reading(list); e != api.OK {
			t.Errorf("Reading(%v) = %d: there is %v", list, e, reading)
		}
		checkReading(t, list, all)
	}
}
