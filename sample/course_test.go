package sample_test

import (
	"math"
	"math/big"
	"math/rand"
	"slices"
	"testing"

	"numnah/api"
	"numnah/sample"
)

// checkCourse holds Course and Chances against a tally of the course.
func checkCourse(t *testing.T, lot, bad int, c api.Course, want *tally) {
	t.Helper()
	chance, mean, e := sample.Course(lot, bad, c)
	if e != api.OK || !isThat(chance, want.chance()) || !isThat(mean, want.mean) {
		t.Errorf("Course(%d, %d, %v) = %v, %v, %d, not %v, %v", lot, bad, c, chance, mean, e, want.chance(), want.mean)
	}
	accepted, rejected, e := sample.Chances(lot, bad, c)
	if e != api.OK || len(accepted) != len(c.Accept) || len(rejected) != len(c.Accept) {
		t.Fatalf("Chances(%d, %d, %v) = %v, %v, %d", lot, bad, c, accepted, rejected, e)
	}
	for i := range accepted {
		if !isThat(accepted[i], want.accepted[i+1]) || !isThat(rejected[i], want.rejected[i+1]) {
			t.Errorf("Chances(%d, %d, %v) = %v, %v: not %v, %v after %d pieces", lot, bad, c, accepted, rejected, want.accepted[i+1], want.rejected[i+1], i+1)
		}
	}
}

// P5.2
func TestCoursesByHand(t *testing.T) {
	half := api.Frac{Num: 1, Den: 2}
	for _, x := range []struct {
		lot, bad     int
		c            api.Course
		chance, mean api.Frac
	}{
		{4, 2, api.Course{Accept: []int{-1, 0}, Reject: []int{1, 1}}, api.Frac{Num: 1, Den: 6}, api.Frac{Num: 3, Den: 2}},
		{1, 0, api.Course{Accept: []int{-1}, Reject: []int{0}}, api.Frac{Num: 0, Den: 1}, api.Frac{Num: 1, Den: 1}},
		{1, 1, api.Course{Accept: []int{1}, Reject: []int{2}}, api.Frac{Num: 1, Den: 1}, api.Frac{Num: 1, Den: 1}},
		{2, 1, api.Course{Accept: []int{0, 3}, Reject: []int{3, 4}}, api.Frac{}, api.Frac{}}, // no course: Accept greater than the length
		{2, 1, api.Course{Accept: []int{0, 2}, Reject: []int{3, 3}}, api.Frac{Num: 1, Den: 1}, api.Frac{Num: 3, Den: 2}},
		{2, 1, api.Course{Accept: []int{0, -1}, Reject: []int{3, 0}}, half, api.Frac{Num: 3, Den: 2}},
		{36, 18, api.Course{Accept: []int{0}, Reject: []int{1}}, half, api.Frac{Num: 1, Den: 1}},
	} {
		e := api.OK
		if x.mean == (api.Frac{}) {
			e = api.ErrArg
		}
		if chance, mean, o := sample.Course(x.lot, x.bad, x.c); chance != x.chance || mean != x.mean || o != e {
			t.Errorf("Course(%d, %d, %v) = %v, %v, %d", x.lot, x.bad, x.c, chance, mean, o)
		}
	}
}

// P5.2
func TestChancesByHand(t *testing.T) {
	c := api.Course{Accept: []int{-1, 0}, Reject: []int{1, 1}}
	accepted, rejected, e := sample.Chances(4, 2, c)
	if e != api.OK || !slices.Equal(accepted, []api.Frac{{Num: 0, Den: 1}, {Num: 1, Den: 6}}) || !slices.Equal(rejected, []api.Frac{{Num: 1, Den: 2}, {Num: 1, Den: 3}}) {
		t.Errorf("Chances(4, 2, %v) = %v, %v, %d", c, accepted, rejected, e)
	}
}

// P5.2: all courses of up to three pieces.
func TestShortCourses(t *testing.T) {
	for length := 1; length <= 3; length++ {
		for _, c := range courses(length) {
			for lot := length; lot <= 5; lot++ {
				if e := sample.Fits(lot, c); e != api.OK {
					t.Errorf("Fits(%d, %v) = %d", lot, c, e)
				}
				for bad := 0; bad <= lot; bad++ {
					checkCourse(t, lot, bad, c, enumerated(lot, bad, courseSays(c)))
				}
			}
		}
	}
}

// P5.2: all ways of small lots.
func TestCoursesOfSmallLots(t *testing.T) {
	random := rand.New(rand.NewSource(1))
	for lot := 1; lot <= 10; lot++ {
		for range 60 {
			c := someCourse(random, lot)
			for bad := 0; bad <= lot; bad++ {
				checkCourse(t, lot, bad, c, enumerated(lot, bad, courseSays(c)))
			}
		}
	}
}

// P5.2
func TestCoursesOfAllLots(t *testing.T) {
	random := rand.New(rand.NewSource(2))
	for lot := 1; lot <= api.MaxLot; lot++ {
		for range 20 {
			c := someCourse(random, lot)
			bad := random.Intn(lot + 1)
			checkCourse(t, lot, bad, c, drawn(lot, bad, courseSays(c)))
		}
	}
}

// P5.2: courses that end as late as possible.
func TestLongCourses(t *testing.T) {
	c := api.Course{Accept: slices.Repeat([]int{-1}, 36), Reject: slices.Repeat([]int{37}, 36)}
	for _, last := range []int{-1, 0, 17, 18, 35, 36} {
		c.Accept[35], c.Reject[35] = last, last+1
		for bad := 0; bad <= 36; bad++ {
			checkCourse(t, 36, bad, c, drawn(36, bad, courseSays(c)))
		}
	}
}

// isCourse reports whether two lists are a course for a lot.
func isCourse(lot int, c api.Course) bool {
	length := len(c.Accept)
	if len(c.Reject) != length || length < 1 || length > lot {
		return false
	}
	for i, a := range c.Accept {
		r := c.Reject[i]
		if a < -1 || a > length+1 || r < -1 || r > length+1 || a >= r {
			return false
		}
	}
	return c.Reject[length-1]-c.Accept[length-1] == 1
}

// P5.2: all short lists of numbers around the limits.
func TestWhatFits(t *testing.T) {
	var lists [4][][]int
	for length := range lists {
		lists[length] = [][]int{nil}
		for range length {
			var longer [][]int
			for _, l := range lists[length] {
				for x := -2; x <= length+2; x++ {
					longer = append(longer, appended(l, x))
				}
			}
			lists[length] = longer
		}
	}
	fitting := 0
	for length := 0; length <= 3; length++ {
		for _, a := range lists[length] {
			for _, r := range slices.Concat(lists[length], lists[max(0, length-1)][:1]) {
				c := api.Course{Accept: a, Reject: r}
				for lot := 1; lot <= 4; lot++ {
					if e := sample.Fits(lot, c); e == api.OK != isCourse(lot, c) || e != api.OK && e != api.ErrArg {
						t.Errorf("Fits(%d, %v) = %d", lot, c, e)
					}
				}
				if isCourse(3, c) {
					fitting++
				}
			}
		}
	}
	if all := len(courses(1)) + len(courses(2)) + len(courses(3)); fitting != all {
		t.Errorf("%d courses, and not %d", fitting, all)
	}
}

// wrongCourses are no courses for a lot of up to 36 pieces.
func wrongCourses() []api.Course {
	return []api.Course{
		{}, {Accept: []int{}, Reject: []int{}}, {Accept: []int{0}}, {Reject: []int{1}}, {Accept: []int{0}, Reject: []int{}}, {Accept: []int{0, 0}, Reject: []int{1}}, {Accept: []int{0}, Reject: []int{1, 1}}, {Accept: []int{-1, 0}, Reject: []int{1, 1, 1}}, {Accept: []int{-1, 0, 0}, Reject: []int{1, 1}},
		{Accept: make([]int, 37), Reject: slices.Repeat([]int{1}, 37)}, {Accept: make([]int, 100000), Reject: slices.Repeat([]int{1}, 100000)}, {Accept: make([]int, 100000), Reject: []int{1}}, {Accept: []int{0}, Reject: make([]int, 100000)},
		{Accept: []int{0}, Reject: []int{0}}, {Accept: []int{1}, Reject: []int{0}}, {Accept: []int{0}, Reject: []int{2}}, {Accept: []int{-2}, Reject: []int{-1}}, {Accept: []int{2}, Reject: []int{3}}, {Accept: []int{-1}, Reject: []int{3}}, {Accept: []int{-1}, Reject: []int{-1}},
		{Accept: []int{math.MaxInt}, Reject: []int{math.MinInt}}, {Accept: []int{math.MinInt}, Reject: []int{math.MinInt + 1}}, {Accept: []int{math.MaxInt - 1}, Reject: []int{math.MaxInt}}, {Accept: []int{math.MinInt}, Reject: []int{math.MaxInt}}, {Accept: []int{math.MaxInt}, Reject: []int{math.MaxInt}},
	}
}

// checkCourseErrors checks that every function that takes a course returns ErrArg.
func checkCourseErrors(t *testing.T, lot, bad int, c api.Course) {
	t.Helper()
	if f, g, e := sample.Course(lot, bad, c); e != api.ErrArg || f != (api.Frac{}) || g != (api.Frac{}) {
		t.Errorf("Course(%d, %d, %v) = %v, %v, %d", lot, bad, c, f, g, e)
	}
	if l, m, e := sample.Chances(lot, bad, c); e != api.ErrArg || len(l)+len(m) > 0 {
		t.Errorf("Chances(%d, %d, %v) = %v, %v, %d", lot, bad, c, l, m, e)
	}
}

// P5.2
func TestCourseErrors(t *testing.T) {
	whole := api.Course{Accept: make([]int, 36), Reject: slices.Repeat([]int{1}, 36)}
	for _, lot := range wrongLots() {
		for _, c := range append(wrongCourses(), api.Course{Accept: []int{0}, Reject: []int{1}}, whole) {
			checkCourseErrors(t, lot, 0, c)
			checkCourseErrors(t, lot, lot, c)
			if e := sample.Fits(lot, c); e != api.ErrArg {
				t.Errorf("Fits(%d, %v) = %d", lot, c, e)
			}
		}
	}
	for _, lot := range []int{1, 2, 10, 35, 36} {
		for _, bad := range wrongBad(lot) {
			checkCourseErrors(t, lot, bad, api.Course{Accept: []int{0}, Reject: []int{1}})
			checkCourseErrors(t, lot, bad, api.Course{})
		}
		for _, c := range wrongCourses() {
			checkCourseErrors(t, lot, 0, c)
			checkCourseErrors(t, lot, lot, c)
			if e := sample.Fits(lot, c); e != api.ErrArg {
				t.Errorf("Fits(%d, %v) = %d", lot, c, e)
			}
		}
	}
	checkCourseErrors(t, 35, 0, whole)
	if e := sample.Fits(35, whole); e != api.ErrArg {
		t.Errorf("Fits(35) = %d for 36 pieces", e)
	}
	if e := sample.Fits(36, whole); e != api.OK {
		t.Errorf("Fits(36) = %d for 36 pieces", e)
	}
}

// P5.4
func TestCurtailByHand(t *testing.T) {
	for _, x := range []struct {
		lot, n, c      int
		accept, reject []int
	}{
		{4, 2, 0, []int{-1, 0}, []int{1, 1}},
		{1, 1, 0, []int{0}, []int{1}},
		{9, 5, 2, []int{-1, -1, 0, 1, 2}, []int{3, 3, 3, 3, 3}},
		{5, 5, 4, []int{0, 1, 2, 3, 4}, []int{5, 5, 5, 5, 5}},
	} {
		if c, e := sample.Curtail(x.lot, x.n, x.c); e != api.OK || !slices.Equal(c.Accept, x.accept) || !slices.Equal(c.Reject, x.reject) {
			t.Errorf("Curtail(%d, %d, %d) = %v, %d", x.lot, x.n, x.c, c, e)
		}
	}
}

// P5.4: all single plans.
func TestCurtail(t *testing.T) {
	for lot := 1; lot <= api.MaxLot; lot++ {
		for _, s := range singles(lot) {
			n, c := s[0], s[1]
			course, e := sample.Curtail(lot, n, c)
			if e != api.OK || len(course.Accept) != n || len(course.Reject) != n || sample.Fits(lot, course) != api.OK {
				t.Fatalf("Curtail(%d, %d, %d) = %v, %d", lot, n, c, course, e)
			}
			for i := 1; i <= n; i++ {
				for k := 0; k <= i; k++ {
					want := goesOn
					if k+n-i <= c {
						want = accepts
					} else if k > c {
						want = rejects
					}
					if courseSays(course)(i, k) != want {
						t.Errorf("Curtail(%d, %d, %d) = %v: not what is sure after %d pieces, %d of them bad", lot, n, c, course, i, k)
					}
				}
				if course.Accept[i-1] != max(-1, c-(n-i)) || course.Reject[i-1] != c+1 {
					t.Errorf("Curtail(%d, %d, %d) = %v", lot, n, c, course)
				}
			}
		}
	}
}

// P5.5: the chances of accepting and of rejecting add up to 1, and so the mean number is at most the length.
func TestChancesAddUp(t *testing.T) {
	random := rand.New(rand.NewSource(3))
	for range 1000 {
		lot := 1 + random.Intn(api.MaxLot)
		bad := random.Intn(lot + 1)
		c := someCourse(random, lot)
		accepted, rejected, e := sample.Chances(lot, bad, c)
		all, mean := new(big.Rat), new(big.Rat)
		for i := range accepted {
			part := new(big.Rat).Add(valueOf(accepted[i]), valueOf(rejected[i]))
			all.Add(all, part)
			mean.Add(mean, part.Mul(part, whole(i+1)))
		}
		_, number, _ := sample.Course(lot, bad, c)
		if e != api.OK || all.Cmp(whole(1)) != 0 || !isThat(number, mean) {
			t.Errorf("Chances(%d, %d, %v) = %v, %v, %d; the mean is %v", lot, bad, c, accepted, rejected, e, number)
		}
	}
}
