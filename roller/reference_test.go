package roller_test

import (
	"math/big"
	"math/rand"
	"slices"

	"numnah/api"
)

// The helpers of this file follow the definitions of the chapter word by word, without regard to time, so that the tests hold the package against them.

// manySteps is more than the length of any walk that the definitions need.
const manySteps = 140

// allMatrices returns all matrices of a size with numbers below the given one.
func allMatrices(size, numbers int) [][][]int {
	count := 1
	for range size * size {
		count *= numbers
	}
	list := make([][][]int, count)
	for code := range count {
		list[code] = square(size, func(i, j int) int {
			digit := code
			for range i*size + j {
				digit /= numbers
			}
			return digit % numbers
		})
	}
	return list
}

// square returns the matrix of a size whose numbers a function says.
func square(size int, number func(i, j int) int) [][]int {
	m := make([][]int, size)
	for i := range m {
		m[i] = make([]int, size)
		for j := range m[i] {
			m[i][j] = number(i, j)
		}
	}
	return m
}

// someMatrices returns matrices of a size, the same ones each time: with few and many steps, with small and great numbers.
func someMatrices(size, count int) [][][]int {
	random := rand.New(rand.NewSource(int64(size)))
	list := make([][][]int, count)
	for c := range list {
		part, greatest := random.Intn(100), 1+random.Intn(9)
		if c%2 == 0 {
			part, greatest = random.Intn(250/size), 1
		}
		list[c] = square(size, func(i, j int) int {
			if random.Intn(100) >= part {
				return 0
			}
			return 1 + random.Intn(greatest)
		})
	}
	return list
}

// rings returns a matrix of rings of the given lengths, one after the other, with a step with the number from the first element of each one to that of the next one.
func rings(number int, lengths ...int) [][]int {
	size := 0
	for _, l := range lengths {
		size += l
	}
	m := square(size, func(i, j int) int { return 0 })
	first := 0
	for _, l := range lengths {
		for x := range l {
			m[first+x][first+(x+1)%l] = 1
		}
		if first+l < size {
			m[first][first+l] = number
		}
		first += l
	}
	return m
}

// sparse returns matrices of all sizes with few steps, which have many classes.
func sparse() [][][]int {
	list := [][][]int{
		rings(1, 1, 1), rings(9, 1, 1, 1), rings(1, 2, 3), rings(2, 3, 5), rings(1, 2, 2, 4), rings(1, 1, 1, 1, 1, 1, 1, 1, 1),
		rings(3, 8), rings(1, 4, 4), rings(1, 1, 7), rings(1, 6, 2), rings(5, 3, 4), {{0}}, {{1}}, {{9}},
		square(8, func(i, j int) int { return 0 }),
		square(8, func(i, j int) int { return max(0, j-i) }),
		square(8, func(i, j int) int { return max(0, 1+j-i) }),
		square(8, func(i, j int) int { return (i + j) % 2 * 9 }),
		square(8, func(i, j int) int { return 9 }),
	}
	for size := 1; size <= api.MaxRollers; size++ {
		list = append(list, wielandt(size))
	}
	return list
}

// wielandt returns the matrix of a size with the greatest exponent: a ring with one step more.
func wielandt(size int) [][]int {
	m := rings(1, size)
	m[size-1][1%size] = 1
	return m
}

// variety returns matrices of all kinds and sizes.
func variety() [][][]int {
	list := slices.Concat(sparse(), allMatrices(1, 10), allMatrices(2, 4), allMatrices(3, 2))
	for size := 3; size <= api.MaxRollers; size++ {
		list = append(list, someMatrices(size, 60)...)
	}
	return list
}

func cloned(m [][]int) [][]int {
	n := make([][]int, len(m))
	for i := range m {
		n[i] = slices.Clone(m[i])
	}
	return n
}

func transposed(m [][]int) [][]int {
	return square(len(m), func(i, j int) int { return m[j][i] })
}

// renamed returns the matrix whose number at names[i], names[j] is that of m at i, j.
func renamed(m [][]int, names []int) [][]int {
	n := cloned(m)
	for i := range m {
		for j := range m {
			n[names[i]][names[j]] = m[i][j]
		}
	}
	return n
}

// walkable tells whether there are walks: of each length, below a given one, from each number to each one.
func walkable(m [][]int, lengths int) [][][]bool {
	list := make([][][]bool, lengths)
	for k := range list {
		list[k] = make([][]bool, len(m))
		for i := range m {
			list[k][i] = make([]bool, len(m))
			for j := range m {
				list[k][i][j] = k == 0 && i == j
				for x := 0; k > 0 && x < len(m); x++ {
					list[k][i][j] = list[k][i][j] || list[k-1][i][x] && m[x][j] > 0
				}
			}
		}
	}
	return list
}

// closure tells which numbers lead to which ones.
func closure(m [][]int) [][]bool {
	list := make([][]bool, len(m))
	walks := walkable(m, len(m))
	for i := range m {
		list[i] = make([]bool, len(m))
		for j := range m {
			list[i][j] = slices.ContainsFunc(walks, func(w [][]bool) bool { return w[i][j] })
		}
	}
	return list
}

// classesOf returns all classes by their smallest numbers, and the smallest number of the class of each number.
func classesOf(m [][]int) (map[int][]int, []int) {
	reach := closure(m)
	classes, smallest := map[int][]int{}, make([]int, len(m))
	for i := range m {
		for j := len(m) - 1; j >= 0; j-- {
			if reach[i][j] && reach[j][i] {
				smallest[i] = j
			}
		}
		classes[smallest[i]] = append(classes[smallest[i]], i)
	}
	return classes, smallest
}

func divisor(a, b int) int {
	if b == 0 {
		return a
	}
	return divisor(b, a%b)
}

// periodsOf returns for each number the greatest common divisor of the lengths of all walks to itself: 0 if there are none.
func periodsOf(m [][]int) []int {
	periods := make([]int, len(m))
	for k, w := range walkable(m, manySteps) {
		for i := range m {
			if k > 0 && w[i][i] {
				periods[i] = divisor(periods[i], k)
			}
		}
	}
	return periods
}

// isWalk reports whether a list is a walk of the length.
func isWalk(m [][]int, walk []int, i, j, k int) bool {
	if len(walk) != k+1 || walk[0] != i || walk[k] != j {
		return false
	}
	for x := range k {
		if m[walk[x]][walk[x+1]] == 0 {
			return false
		}
	}
	return true
}

// smallestWalk goes through all lists of numbers in ascending order and returns the first walk.
func smallestWalk(m [][]int, i, j, k int) []int {
	list := make([]int, k+1)
	for {
		if isWalk(m, list, i, j, k) {
			return list
		}
		x := k
		for x >= 0 && list[x] == len(m)-1 {
			list[x] = 0
			x--
		}
		if x < 0 {
			return nil
		}
		list[x]++
	}
}

// powersOf returns the powers from 0 to k.
func powersOf(m [][]int, k int) [][][]*big.Int {
	powers := make([][][]*big.Int, k+1)
	for p := range powers {
		powers[p] = make([][]*big.Int, len(m))
		for i := range m {
			powers[p][i] = make([]*big.Int, len(m))
			for j := range m {
				sum := big.NewInt(0)
				if p == 0 && i == j {
					sum.SetInt64(1)
				}
				for x := 0; p > 0 && x < len(m); x++ {
					sum.Add(sum, new(big.Int).Mul(powers[p-1][i][x], big.NewInt(int64(m[x][j]))))
				}
				powers[p][i][j] = sum
			}
		}
	}
	return powers
}

// isFull reports whether some number is greater than 2^60.
func isFull(power [][]*big.Int) bool {
	limit := new(big.Int).Lsh(big.NewInt(1), 60)
	return slices.ContainsFunc(power, func(l []*big.Int) bool {
		return slices.ContainsFunc(l, func(x *big.Int) bool { return x.Cmp(limit) > 0 })
	})
}

func sameNumbers(power [][]*big.Int, numbers [][]int) bool {
	return slices.EqualFunc(power, numbers, func(l []*big.Int, r []int) bool {
		return slices.EqualFunc(l, r, func(x *big.Int, y int) bool { return x.IsInt64() && x.Int64() == int64(y) })
	})
}

// exponentOf returns the smallest exponent, or 0 if there is none for a long while.
func exponentOf(m [][]int) int {
	for k, w := range walkable(m, manySteps) {
		all := k > 0
		for _, l := range w {
			all = all && !slices.Contains(l, false)
		}
		if all {
			return k
		}
	}
	return 0
}

// determinant adds up the products over all orders of the rows.
func determinant(m [][]int) *big.Int {
	if len(m) == 0 {
		return big.NewInt(1)
	}
	sum := big.NewInt(0)
	for i := range m {
		if m[i][0] == 0 {
			continue
		}
		var rest [][]int
		for x := range m {
			if x != i {
				rest = append(rest, m[x][1:])
			}
		}
		part := determinant(rest)
		part.Mul(part, big.NewInt(int64(m[i][0])))
		if i%2 == 1 {
			part.Neg(part)
		}
		sum.Add(sum, part)
	}
	return sum
}

// valueOf returns the value of a polynomial at t.
func valueOf(polynomial []int, t int) *big.Int {
	sum := big.NewInt(0)
	for _, c := range slices.Backward(polynomial) {
		sum.Mul(sum, big.NewInt(int64(t)))
		sum.Add(sum, big.NewInt(int64(c)))
	}
	return sum
}

// distanceFor returns a number that the lengths of all rings of numbers divide.
func distanceFor(m [][]int) int {
	distance := 1
	for l := range len(m) {
		distance = distance * (l + 1) / divisor(distance, l+1)
	}
	return distance
}

// countsOf returns the counts of walks from each number, of all lengths that growthOf looks at, and of so many that a count that grows faster than every power is greater than 10^60 in the end, while one that does not never is. A count is nil from there on.
func countsOf(m [][]int) [][]*big.Int {
	limit := new(big.Int).Exp(big.NewInt(10), big.NewInt(60), nil)
	lengths := max(3000, len(m)+(len(m)+1)*distanceFor(m)+1)
	counts := make([][]*big.Int, lengths)
	for k := range counts {
		counts[k] = make([]*big.Int, len(m))
		for i := range m {
			count := big.NewInt(1)
			if k > 0 {
				count = nextCount(m, counts[k-1], i)
			}
			if count != nil && count.Cmp(limit) <= 0 {
				counts[k][i] = count
			}
		}
	}
	return counts
}

// nextCount returns the count of walks from i that are longer by one, or nil if that from i, or one that it is made of, is nil.
func nextCount(m [][]int, counts []*big.Int, i int) *big.Int {
	if counts[i] == nil {
		return nil
	}
	sum := big.NewInt(0)
	for j, number := range m[i] {
		if number == 0 {
			continue
		}
		if counts[j] == nil {
			return nil
		}
		sum.Add(sum, new(big.Int).Mul(counts[j], big.NewInt(int64(number))))
	}
	return sum
}

// growthOf reads from the counts how they grow. One that grows no faster than a power is, for k from the size of the matrix on and at the distance, the value of a polynomial, whose degree is the number of times that its differences are to be taken until they are constant.
func growthOf(m [][]int, counts [][]*big.Int, i int) int {
	if counts[len(counts)-1][i] == nil {
		return -2
	}
	var values []*big.Int
	for x := range len(m) + 2 {
		values = append(values, counts[len(m)+x*distanceFor(m)][i])
	}
	for degree := -1; ; degree++ {
		if !slices.ContainsFunc(values, func(v *big.Int) bool { return v.Sign() != 0 }) {
			return degree
		}
		for x := range len(values) - 1 {
			values[x] = new(big.Int).Sub(values[x+1], values[x])
		}
		values = values[:len(values)-1]
	}
}
