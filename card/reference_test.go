package card_test

import (
	"math/bits"
	"math/rand"
	"slices"
	"strings"
)

// The helpers of this file follow the definitions of the chapter word by word, without regard to time, so that the tests hold the package against them.

// words returns all strings of a length over an alphabet, in ascending order if the alphabet is.
func words(alphabet string, length int) []string {
	list := []string{""}
	for range length {
		var next []string
		for _, s := range list {
			for _, c := range alphabet {
				next = append(next, s+string(c))
			}
		}
		list = next
	}
	return list
}

// smallFunctions returns all functions of 1 to 3 variables over an alphabet.
func smallFunctions(alphabet string) []string {
	return slices.Concat(words(alphabet, 2), words(alphabet, 4), words(alphabet, 8))
}

// someFunctions returns functions of a number of variables, the same ones each time, with the characters of the alphabet in changing proportions.
func someFunctions(alphabet string, vars, count int) []string {
	random := rand.New(rand.NewSource(int64(vars)))
	list := make([]string, count)
	for i := range list {
		letters := alphabet
		for range random.Intn(4) {
			letters += string(alphabet[random.Intn(len(alphabet))])
		}
		text := make([]byte, 1<<vars)
		for p := range text {
			text[p] = letters[random.Intn(len(letters))]
		}
		list[i] = string(text)
	}
	return list
}

func varsOf(function string) int {
	return bits.Len(uint(len(function))) - 1
}

func contains(cube string, point int) bool {
	for i := range cube {
		if cube[i] != '-' && int(cube[i]-'0') != point>>i&1 {
			return false
		}
	}
	return true
}

// pointsOf returns the points of a cube in ascending order.
func pointsOf(cube string) []int {
	var points []int
	for p := range 1 << len(cube) {
		if contains(cube, p) {
			points = append(points, p)
		}
	}
	return points
}

// holds reports whether a cube contains a point with the value.
func holds(function, cube string, value byte) bool {
	for _, p := range pointsOf(cube) {
		if function[p] == value {
			return true
		}
	}
	return false
}

func implicantsOf(function string) []string {
	var list []string
	for _, c := range words("-01", varsOf(function)) {
		if !holds(function, c, '0') && holds(function, c, '1') {
			list = append(list, c)
		}
	}
	return list
}

// includes reports whether a cube contains all points of another one.
func includes(great, small string) bool {
	for i := range great {
		if great[i] != '-' && great[i] != small[i] {
			return false
		}
	}
	return true
}

func primesOf(function string) []string {
	implicants := implicantsOf(function)
	var list []string
	for _, c := range implicants {
		if !slices.ContainsFunc(implicants, func(d string) bool { return d != c && includes(d, c) }) {
			list = append(list, c)
		}
	}
	return list
}

func essentialOf(function string) []string {
	primes := primesOf(function)
	var list []string
	for _, c := range primes {
		for _, p := range pointsOf(c) {
			others := slices.ContainsFunc(primes, func(d string) bool { return d != c && contains(d, p) })
			if function[p] == '1' && !others {
				list = append(list, c)
				break
			}
		}
	}
	return list
}

func isCover(function string, cubes []string) bool {
	for p := range function {
		covered := slices.ContainsFunc(cubes, func(c string) bool { return contains(c, p) })
		if function[p] == '1' && !covered || function[p] == '0' && covered {
			return false
		}
	}
	return true
}

func isIrredundant(function string, cubes []string) bool {
	for i := range cubes {
		if isCover(function, slices.Concat(cubes[:i], cubes[i+1:])) {
			return false
		}
	}
	return true
}

// leastOf returns the smallest number of primes that contain all points with the value 1.
func leastOf(function string) int {
	var sets []uint32
	for _, c := range primesOf(function) {
		var s uint32
		for _, p := range pointsOf(c) {
			s |= 1 << p
		}
		sets = append(sets, s)
	}
	var ones uint32
	for p := range function {
		if function[p] == '1' {
			ones |= 1 << p
		}
	}
	known := map[uint32]int{0: 0}
	var least func(open uint32) int
	least = func(open uint32) int {
		if n, ok := known[open]; ok {
			return n
		}
		n := len(function)
		for _, s := range sets {
			if s&(open&-open) != 0 {
				n = min(n, 1+least(open&^s))
			}
		}
		known[open] = n
		return n
	}
	return least(ones)
}

// together reports, for each two points, whether they are in one implicant.
func together(function string) [32][32]bool {
	var near [32][32]bool
	for _, c := range implicantsOf(function) {
		points := pointsOf(c)
		for _, p := range points {
			for _, q := range points {
				near[p][q] = true
			}
		}
	}
	return near
}

// apartOf tries all sets of points with the value 1.
func apartOf(function string) []int {
	near := together(function)
	var ones []int
	for p := range function {
		if function[p] == '1' {
			ones = append(ones, p)
		}
	}
	var best []int
	for set := range 1 << len(ones) {
		var list []int
		for i, p := range ones {
			if set>>i&1 == 1 {
				list = append(list, p)
			}
		}
		if len(list) < len(best) || len(list) == len(best) && slices.Compare(list, best) >= 0 {
			continue
		}
		if areApart(near, list) {
			best = list
		}
	}
	return best
}

func areApart(near [32][32]bool, list []int) bool {
	for i, p := range list {
		for _, q := range list[:i] {
			if near[p][q] {
				return false
			}
		}
	}
	return true
}

// sumsTo reports whether the second string is the Sum of the first.
func sumsTo(function, sum string) bool {
	if len(sum) != len(function) || strings.Trim(sum, "01") != "" {
		return false
	}
	for p := range function {
		count := 0
		for q := range sum {
			if sum[q] == '1' && q&^p == 0 {
				count++
			}
		}
		if int(function[p]-'0') != count%2 {
			return false
		}
	}
	return true
}

func sensitivityOf(function string) int {
	most := 0
	for p := range function {
		count := 0
		for i := range varsOf(function) {
			if function[p] != function[p^1<<i] {
				count++
			}
		}
		most = max(most, count)
	}
	return most
}

func certificateOf(function string) int {
	most := 0
	for p := range function {
		fewest := varsOf(function)
		for _, c := range words("-01", varsOf(function)) {
			if contains(c, p) && holds(function, c, '0') != holds(function, c, '1') {
				fewest = min(fewest, len(c)-strings.Count(c, "-"))
			}
		}
		most = max(most, fewest)
	}
	return most
}

// realizes reports whether weights realize a total function.
func realizes(function string, weights []int) bool {
	n := varsOf(function)
	if len(weights) != n+1 {
		return false
	}
	for p := range function {
		sum := 0
		for i := range n {
			sum += weights[i] * (p >> i & 1)
		}
		if (function[p] == '1') != (sum >= weights[n]) {
			return false
		}
	}
	return true
}

// isBalance reports whether two lists of points are a balance.
func isBalance(function string, points [][]int) bool {
	if len(points) != 2 || len(points[0]) != len(points[1]) || len(points[0]) < 1 || len(points[0]) > 1000 {
		return false
	}
	for side, list := range points {
		for _, p := range list {
			if p < 0 || p >= len(function) || function[p] != "10"[side] {
				return false
			}
		}
	}
	for i := range varsOf(function) {
		difference := 0
		for j := range points[0] {
			difference += points[0][j]>>i&1 - points[1][j]>>i&1
		}
		if difference != 0 {
			return false
		}
	}
	return true
}

// monotoneOf returns what Monotone is to return.
func monotoneOf(function string) (int, int) {
	for p := range function {
		for i := range varsOf(function) {
			if p>>i&1 == 0 && function[p] == '1' && function[p|1<<i] == '0' {
				return p, i
			}
		}
	}
	return -1, -1
}

// turned returns what Turn is to return.
func turned(function string, order, flips []int) string {
	text := ""
	for p := range function {
		q := 0
		for i, to := range order {
			value := p >> i & 1
			if slices.Contains(flips, i) {
				value = 1 - value
			}
			q += value << to
		}
		text += function[q : q+1]
	}
	return text
}

// orders returns all orders of the variables.
func orders(vars int) [][]int {
	if vars == 0 {
		return [][]int{{}}
	}
	var list [][]int
	for _, o := range orders(vars - 1) {
		for i := range vars {
			list = append(list, slices.Insert(slices.Clone(o), i, vars-1))
		}
	}
	return list
}

// subsets returns all sets of variables, as lists in ascending order.
func subsets(vars int) [][]int {
	list := [][]int{{}}
	for i := range vars {
		for _, s := range slices.Clone(list) {
			list = append(list, append(slices.Clone(s), i))
		}
	}
	return list
}

// parity is the function whose value is 1 if an odd number of variables is 1.
func parity(vars int) string {
	text := make([]byte, 1<<vars)
	for p := range text {
		text[p] = byte('0' + bits.OnesCount(uint(p))%2)
	}
	return string(text)
}

// repeat returns a list that repeats some numbers.
func repeat(times int, numbers ...int) []int {
	return slices.Repeat(numbers, times)
}
