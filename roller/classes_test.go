package roller_test

import (
	"slices"
	"testing"

	"numnah/api"
	"numnah/roller"
)

// P2.1
func TestClassesByHand(t *testing.T) {
	for _, x := range []struct {
		m                       [][]int
		classes, periods, final []int
		blocks                  [][]int
	}{
		{[][]int{{0, 1}, {1, 1}}, []int{0, 0}, []int{1, 1}, []int{0}, [][]int{{0, 1}}},
		{[][]int{{0, 1}, {1, 0}}, []int{0, 0}, []int{2, 2}, []int{0}, [][]int{{0, 1}}},
		{[][]int{{1, 1}, {0, 1}}, []int{0, 1}, []int{1, 1}, []int{1}, [][]int{{0}, {1}}},
		{[][]int{{0}}, []int{0}, []int{0}, []int{0}, [][]int{{0}}},
		{[][]int{{9}}, []int{0}, []int{1}, []int{0}, [][]int{{0}}},
		{[][]int{{0, 0}, {0, 0}}, []int{0, 1}, []int{0, 0}, []int{0, 1}, [][]int{{0}, {1}}},
		// A class with a greater number leads to the others.
		{[][]int{{0, 0, 0}, {0, 0, 0}, {1, 1, 0}}, []int{0, 1, 2}, []int{0, 0, 0}, []int{0, 1}, [][]int{{2}, {0}, {1}}},
		// 0 and 2 make a class; 3 leads to it, and 1 to nothing.
		{[][]int{{0, 0, 3, 0}, {0, 2, 0, 0}, {4, 0, 0, 0}, {0, 0, 1, 0}}, []int{0, 1, 0, 3}, []int{2, 1, 2, 0}, []int{0, 1}, [][]int{{1}, {3}, {0, 2}}},
		// As soon as 3 is placed, the class of 0 comes before that of 4.
		{[][]int{{0, 1, 0, 0, 0}, {1, 0, 0, 0, 0}, {1, 0, 0, 0, 0}, {0, 1, 1, 0, 0}, {0, 0, 0, 0, 5}}, []int{0, 0, 2, 3, 4}, []int{2, 2, 0, 0, 1}, []int{0, 4}, [][]int{{3}, {2}, {0, 1}, {4}}},
		// Rings of the lengths 4 and 6 with one number in common.
		{[][]int{{0, 1, 0, 0, 1, 0, 0, 0}, {0, 0, 1, 0, 0, 0, 0, 0}, {0, 0, 0, 1, 0, 0, 0, 0}, {1, 0, 0, 0, 0, 0, 0, 0}, {0, 0, 0, 0, 0, 1, 0, 0}, {0, 0, 0, 0, 0, 0, 1, 0}, {0, 0, 0, 0, 0, 0, 0, 1}, {0, 0, 1, 0, 0, 0, 0, 0}}, []int{0, 0, 0, 0, 0, 0, 0, 0}, []int{1, 1, 1, 1, 1, 1, 1, 1}, []int{0}, [][]int{{0, 1, 2, 3, 4, 5, 6, 7}}},
		{[][]int{{0, 1, 0, 0, 1, 0}, {0, 0, 1, 0, 0, 0}, {0, 0, 0, 1, 0, 0}, {1, 0, 0, 0, 0, 0}, {0, 0, 0, 0, 0, 1}, {0, 0, 0, 1, 0, 0}}, []int{0, 0, 0, 0, 0, 0}, []int{4, 4, 4, 4, 4, 4}, []int{0}, [][]int{{0, 1, 2, 3, 4, 5}}},
		{[][]int{{0, 1, 0, 0}, {1, 0, 1, 0}, {0, 0, 0, 1}, {1, 0, 0, 0}}, []int{0, 0, 0, 0}, []int{2, 2, 2, 2}, []int{0}, [][]int{{0, 1, 2, 3}}},
	} {
		if l, e := roller.Classes(x.m); e != api.OK || !slices.Equal(l, x.classes) {
			t.Errorf("Classes(%v) = %v, %d", x.m, l, e)
		}
		if l, e := roller.Periods(x.m); e != api.OK || !slices.Equal(l, x.periods) {
			t.Errorf("Periods(%v) = %v, %d", x.m, l, e)
		}
		if l, e := roller.Final(x.m); e != api.OK || !slices.Equal(l, x.final) {
			t.Errorf("Final(%v) = %v, %d", x.m, l, e)
		}
		if l, e := roller.Blocks(x.m); e != api.OK || !slices.EqualFunc(l, x.blocks, slices.Equal) {
			t.Errorf("Blocks(%v) = %v, %d", x.m, l, e)
		}
	}
}

// P2.1
func TestClassesAndFinal(t *testing.T) {
	for _, m := range variety() {
		classes, smallest := classesOf(m)
		if l, e := roller.Classes(m); e != api.OK || !slices.Equal(l, smallest) {
			t.Errorf("Classes(%v) = %v, %d", m, l, e)
		}
		var final []int
		for i := range m {
			if smallest[i] == i && !stepsOut(m, classes[i]) {
				final = append(final, i)
			}
		}
		if l, e := roller.Final(m); e != api.OK || !slices.Equal(l, final) {
			t.Errorf("Final(%v) = %v, %d", m, l, e)
		}
	}
}

// stepsOut reports whether a step leads out of a class.
func stepsOut(m [][]int, class []int) bool {
	for _, i := range class {
		for j := range m {
			if m[i][j] > 0 && !slices.Contains(class, j) {
				return true
			}
		}
	}
	return false
}

// P2.1
func TestPeriods(t *testing.T) {
	for _, m := range variety() {
		if l, e := roller.Periods(m); e != api.OK || !slices.Equal(l, periodsOf(m)) {
			t.Errorf("Periods(%v) = %v, %d", m, l, e)
		}
	}
}

// P2.1
func TestBlocks(t *testing.T) {
	for _, m := range variety() {
		classes, _ := classesOf(m)
		blocks, e := roller.Blocks(m)
		if e != api.OK || len(blocks) != len(classes) {
			t.Errorf("Blocks(%v) = %v, %d", m, blocks, e)
			continue
		}
		for _, b := range blocks {
			if len(b) == 0 || !slices.Equal(b, classes[b[0]]) || b[0] != nextBlock(m, classes) {
				t.Errorf("Blocks(%v) = %v, not so at %v", m, blocks, b)
				break
			}
			delete(classes, b[0])
		}
	}
}

// nextBlock returns the smallest number of a class to which no other one of the classes leads.
func nextBlock(m [][]int, classes map[int][]int) int {
	reach := closure(m)
	for i := range m {
		could := classes[i] != nil
		for j := range classes {
			could = could && (i == j || !reach[j][i])
		}
		if could {
			return i
		}
	}
	return -1
}
