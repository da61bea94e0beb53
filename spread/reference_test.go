package spread_test

import (
	"math/big"
	"math/rand"
	"slices"

	"numnah/api"
)

// The helpers of this file follow the definitions of the chapter word by word, without regard to time, so that the tests hold the package against them.

// lineOf is a scale with points.
type lineOf struct {
	scale  int
	points []int
}

type sheetOf struct {
	scale  int
	points [][2]int
}

// allLists returns all lists of a length of numbers below the given one.
func allLists(length, numbers int) [][]int {
	lists := [][]int{{}}
	for range length {
		var longer [][]int
		for _, l := range lists {
			for x := range numbers {
				longer = append(longer, append(slices.Clone(l), x))
			}
		}
		lists = longer
	}
	return lists
}

// smallLines returns all lines of small scales with few points.
func smallLines() []lineOf {
	var lines []lineOf
	for scale := 1; scale <= 5; scale++ {
		for size := 1; size <= 4; size++ {
			for _, points := range allLists(size, scale) {
				lines = append(lines, lineOf{scale, points})
			}
		}
	}
	return lines
}

// someLines returns lines of scales up to the given one, the same ones each time: with few and many points, with points that lie together, and with one point many times.
func someLines(count, greatest int) []lineOf {
	random := rand.New(rand.NewSource(int64(greatest)))
	lines := make([]lineOf, count)
	for i := range lines {
		scale := 1 + random.Intn(greatest)
		if i%5 == 0 {
			scale = greatest
		}
		part := 1 + random.Intn(scale)
		from := random.Intn(scale - part + 1)
		points := make([]int, 1+random.Intn(api.MaxPoints))
		if i%3 == 0 {
			points = points[:1+random.Intn(min(len(points), 4))]
		}
		for p := range points {
			points[p] = from + random.Intn(part)
		}
		lines[i] = lineOf{scale, points}
	}
	return lines
}

// evenLines returns lines whose points lie evenly, and the ends of the limits.
func evenLines() []lineOf {
	lines := []lineOf{
		{1, []int{0}}, {1, make([]int, 60)}, {1000, []int{0}}, {1000, []int{999}}, {1000, make([]int, 60)}, {1000, slices.Repeat([]int{999}, 60)},
	}
	for size := 1; size <= api.MaxPoints; size++ {
		for _, step := range []int{1, 2, 7} {
			points := make([]int, size)
			for i := range points {
				points[i] = i*step + step/2
			}
			lines = append(lines, lineOf{size * step, points})
		}
	}
	return lines
}

// variety returns lines of all kinds.
func variety() []lineOf {
	return slices.Concat(smallLines(), someLines(300, 12), someLines(200, 60), someLines(20, 200), someLines(10, 1000), evenLines())
}

func smallSheets() []sheetOf {
	var sheets []sheetOf
	for scale := 1; scale <= 3; scale++ {
		for size := 1; size <= 3; size++ {
			for _, list := range allLists(size, scale*scale) {
				points := make([][2]int, size)
				for i, x := range list {
					points[i] = [2]int{x / scale, x % scale}
				}
				sheets = append(sheets, sheetOf{scale, points})
			}
		}
	}
	return sheets
}

// someSheets returns sheets of scales up to the given one, the same ones each time.
func someSheets(count, greatest int) []sheetOf {
	sheets := make([]sheetOf, count)
	x, y := someLines(count, greatest), someLines(2*count, greatest)[count:]
	for i := range sheets {
		scale := max(x[i].scale, y[i].scale)
		points := make([][2]int, min(len(x[i].points), len(y[i].points)))
		for p := range points {
			points[p] = [2]int{x[i].points[p], y[i].points[p]}
		}
		sheets[i] = sheetOf{scale, points}
	}
	return sheets
}

// evenSheets returns sheets whose open and closed counts give the discrepancy at the same place.
func evenSheets() []sheetOf {
	return []sheetOf{
		{6, [][2]int{{1, 3}, {4, 1}, {5, 5}}}, {10, [][2]int{{5, 4}, {5, 3}, {5, 6}, {0, 8}, {8, 5}}}, {6, [][2]int{{5, 0}, {1, 5}, {0, 5}, {3, 3}, {3, 4}, {3, 5}}},
		{8, [][2]int{{0, 6}, {4, 3}, {4, 1}, {7, 7}}}, {12, [][2]int{{9, 3}, {2, 8}}}, {12, [][2]int{{3, 9}, {5, 9}, {8, 1}}},
	}
}

// varietyOfSheets returns sheets of all kinds, and the ends of the limits.
func varietyOfSheets() []sheetOf {
	return append(slices.Concat(smallSheets(), someSheets(200, 8), someSheets(60, 30), someSheets(12, 100), evenSheets()),
		sheetOf{1, make([][2]int, 60)}, sheetOf{100, [][2]int{{0, 0}}}, sheetOf{100, [][2]int{{99, 99}}}, sheetOf{100, [][2]int{{0, 99}}},
		sheetOf{100, slices.Repeat([][2]int{{99, 99}}, 60)}, sheetOf{100, slices.Repeat([][2]int{{50, 50}}, 60)})
}

// quotient is a fraction without regard to range.
func quotient(num, den int) *big.Rat {
	return big.NewRat(int64(num), int64(den))
}

// value returns a fraction whose Den is not 0.
func value(f api.Frac) *big.Rat {
	return quotient(f.Num, f.Den)
}

func divisor(a, b int) int {
	if b == 0 {
		return a
	}
	return divisor(b, a%b)
}

// isValid reports whether a fraction that is not negative is valid.
func isValid(f api.Frac) bool {
	return f.Den >= 1 && f.Num >= 0 && divisor(f.Num, f.Den) == 1
}

// isThat reports whether a fraction is valid and has the value.
func isThat(f api.Frac, want *big.Rat) bool {
	return isValid(f) && value(f).Cmp(want) == 0
}

// distance is the absolute value of the difference.
func distance(a, b *big.Rat) *big.Rat {
	d := new(big.Rat).Sub(a, b)
	return d.Abs(d)
}

// count returns how many elements have a property.
func count[T any](list []T, has func(T) bool) int {
	number := 0
	for _, x := range list {
		if has(x) {
			number++
		}
	}
	return number
}

// byBelow is the absolute value of (count below t) / n - t / N.
func (l lineOf) byBelow(t int) *big.Rat {
	below := count(l.points, func(x int) bool { return x < t })
	return distance(quotient(below, len(l.points)), quotient(t, l.scale))
}

// byUpTo is the absolute value of (count up to t) / n - t / N.
func (l lineOf) byUpTo(t int) *big.Rat {
	upTo := count(l.points, func(x int) bool { return x <= t })
	return distance(quotient(upTo, len(l.points)), quotient(t, l.scale))
}

func (l lineOf) deviation(t int) *big.Rat {
	below := l.byBelow(t)
	if t == l.scale {
		return below
	}
	if upTo := l.byUpTo(t); upTo.Cmp(below) > 0 {
		return upTo
	}
	return below
}

// discrepancy returns the greatest deviation, the smallest t with it, and whether it comes from the count below.
func (l lineOf) discrepancy() (*big.Rat, int, bool) {
	greatest := quotient(0, 1)
	for t := 0; t <= l.scale; t++ {
		if d := l.deviation(t); d.Cmp(greatest) > 0 {
			greatest = d
		}
	}
	t := 0
	for l.deviation(t).Cmp(greatest) != 0 {
		t++
	}
	return greatest, t, l.byBelow(t).Cmp(greatest) == 0
}

// interval returns what Interval does, with the fraction as a value.
func (l lineOf) interval() (*big.Rat, [2]int) {
	size := len(l.points)
	greatest, place := -1, [2]int{}
	for s := 0; s < l.scale; s++ {
		for t := s + 1; t <= l.scale; t++ {
			inside := count(l.points, func(x int) bool { return s <= x && x < t })
			excess := inside*l.scale - (t-s)*size // times n N
			if max(excess, -excess) > greatest {
				greatest, place = max(excess, -excess), [2]int{s, t}
			}
		}
	}
	return quotient(greatest, size*l.scale), place
}

// byOpen and byClosed are the absolute values of (open count) / n - s t / N^2 and (closed count) / n - s t / N^2.
func (a sheetOf) byOpen(s, t int) *big.Rat {
	open := count(a.points, func(p [2]int) bool { return p[0] < s && p[1] < t })
	return distance(quotient(open, len(a.points)), quotient(s*t, a.scale*a.scale))
}

func (a sheetOf) byClosed(s, t int) *big.Rat {
	closed := count(a.points, func(p [2]int) bool { return p[0] <= s && p[1] <= t })
	return distance(quotient(closed, len(a.points)), quotient(s*t, a.scale*a.scale))
}

// discrepancy returns the discrepancy, the lexicographically smallest s, t that gives it, and whether the open count does.
func (a sheetOf) discrepancy() (*big.Rat, [2]int, bool) {
	greatest := quotient(0, 1)
	open, closed := map[[2]int]*big.Rat{}, map[[2]int]*big.Rat{}
	for s := 0; s <= a.scale; s++ {
		for t := 0; t <= a.scale; t++ {
			if s >= 1 && t >= 1 {
				open[[2]int{s, t}] = a.byOpen(s, t)
			}
			if s < a.scale && t < a.scale {
				closed[[2]int{s, t}] = a.byClosed(s, t)
			}
		}
	}
	for _, deviations := range []map[[2]int]*big.Rat{open, closed} {
		for _, d := range deviations {
			if d.Cmp(greatest) > 0 {
				greatest = d
			}
		}
	}
	gives := func(deviations map[[2]int]*big.Rat, place [2]int) bool {
		d := deviations[place]
		return d != nil && d.Cmp(greatest) == 0
	}
	for s := 0; s <= a.scale; s++ {
		for t := 0; t <= a.scale; t++ {
			place := [2]int{s, t}
			if gives(open, place) || gives(closed, place) {
				return greatest, place, gives(open, place)
			}
		}
	}
	return nil, [2]int{}, false
}

// mirrorOf adds up the digits of k, each divided by its power of b.
func mirrorOf(b, k int) *big.Rat {
	sum, power := quotient(0, 1), int64(1)
	for _, digit := range digitsOf(b, k) {
		power *= int64(b)
		sum.Add(sum, big.NewRat(int64(digit), power))
	}
	return sum
}

// digitsOf returns the digits of k in base b, the lowest one first.
func digitsOf(b, k int) []int {
	text := big.NewInt(int64(k)).Text(b)
	digits := make([]int, len(text))
	for i := range text {
		digit, _ := new(big.Int).SetString(text[len(text)-1-i:len(text)-i], b)
		digits[i] = int(digit.Int64())
	}
	return digits
}

// numberOf returns the number whose mirror is a fraction from 0 to less than 1, or nil if there is none whatsoever: its digits are those of the fraction, which end if its denominator divides a power of the base.
func numberOf(b int, f api.Frac) *big.Int {
	base, den := big.NewInt(int64(b)), big.NewInt(int64(f.Den))
	power, places := big.NewInt(1), 0
	for new(big.Int).Mod(power, den).Sign() != 0 {
		if places > 64 { // no exponent of a prime number in Den is greater
			return nil
		}
		power.Mul(power, base)
		places++
	}
	rest := new(big.Int).Div(power, den)
	rest.Mul(rest, big.NewInt(int64(f.Num)))
	number := big.NewInt(0)
	for range places {
		digit := new(big.Int)
		rest.DivMod(rest, base, digit)
		number.Mul(number, base)
		number.Add(number, digit)
	}
	return number
}

// gapsOf goes from each point on until there is a point.
func (l lineOf) gapsOf() []int {
	var gaps []int
	for _, x := range l.points {
		gap := 1
		for !slices.Contains(l.points, (x+gap)%l.scale) {
			gap++
		}
		gaps = append(gaps, gap)
	}
	slices.Sort(gaps)
	return slices.Compact(gaps)
}
