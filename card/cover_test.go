package card_test

import (
	"slices"
	"strings"
	"testing"

	"numnah/api"
	"numnah/card"
)

// checkLeast holds a cover against the definition, and its size against the least one.
func checkLeast(t *testing.T, function string) {
	t.Helper()
	cover, e := card.Cover(function)
	if e != api.OK || !isCover(function, cover) || len(cover) != leastOf(function) {
		t.Errorf("Cover(%s) = %v, %d, want %d cubes", function, cover, e, leastOf(function))
	}
	primes := primesOf(function)
	for _, c := range cover {
		if !slices.Contains(primes, c) {
			t.Errorf("Cover(%s) = %v: %s is not prime", function, cover, c)
		}
	}
	if e := card.Check(function, cover); e != api.OK {
		t.Errorf("Check(%s, %v) = %d", function, cover, e)
	}
	if is, e := card.Irredundant(function, cover); !is || e != api.OK {
		t.Errorf("Irredundant(%s, %v) = %v, %d", function, cover, is, e)
	}
}

// P1.2
func TestCoversAreLeast(t *testing.T) {
	for _, f := range smallFunctions("01-") {
		checkLeast(t, f)
	}
	for _, f := range slices.Concat(someFunctions("01-", 4, 150), someFunctions("01", 4, 150), someFunctions("01-", 5, 60), someFunctions("01", 5, 30)) {
		checkLeast(t, f)
	}
}

// P1.2
func TestCoversByHand(t *testing.T) {
	for _, x := range []struct {
		function string
		size     int
	}{
		{"0110", 2}, {"0111", 2}, {"1-01", 2}, {"00", 0}, {"0--0", 0}, {"--", 0}, {"11", 1}, {"-1", 1},
		{strings.Repeat("0", 32), 0}, {strings.Repeat("-", 32), 0}, {strings.Repeat("1", 32), 1},
		{strings.Repeat("-", 16) + "1" + strings.Repeat("-", 15), 1},
		{parity(5), 16}, {parity(4), 8}, {"01111110", 3},
	} {
		if l, e := card.Cover(x.function); e != api.OK || len(l) != x.size || !isCover(x.function, l) {
			t.Errorf("Cover(%s) = %v, %d, want %d cubes", x.function, l, e, x.size)
		}
	}
}

func checkCubes(t *testing.T, function string, cubes []string) {
	t.Helper()
	want := api.ErrAnswer
	if isCover(function, cubes) {
		want = api.OK
	}
	if e := card.Check(function, cubes); e != want {
		t.Errorf("Check(%s, %q) = %d, want %d", function, cubes, e, want)
	}
	irredundant := want == api.OK && isIrredundant(function, cubes)
	if is, e := card.Irredundant(function, cubes); is != irredundant || e != want {
		t.Errorf("Irredundant(%s, %q) = %v, %d, want %v, %d", function, cubes, is, e, irredundant, want)
	}
}

// P1.2
func TestCheckAllListsOfTwoVariables(t *testing.T) {
	cubes := words("-01", 2)
	for _, f := range words("01-", 4) {
		checkCubes(t, f, nil)
		checkCubes(t, f, []string{})
		for _, a := range cubes {
			checkCubes(t, f, []string{a})
			for _, b := range cubes {
				checkCubes(t, f, []string{a, b})
				for _, c := range cubes {
					checkCubes(t, f, []string{a, b, c})
				}
			}
		}
	}
}

// P1.2: covers with cubes that are left out, doubled or changed.
func TestCheckLongerLists(t *testing.T) {
	for _, f := range slices.Concat(someFunctions("01-", 3, 50), someFunctions("01-", 4, 50), someFunctions("01-", 5, 50), someFunctions("01", 5, 50)) {
		primes := primesOf(f)
		if len(primes) > 31 {
			continue
		}
		checkCubes(t, f, primes)
		for i, c := range primes {
			checkCubes(t, f, slices.Concat(primes[:i], primes[i+1:]))
			checkCubes(t, f, append(slices.Clone(primes), c))
			changed := slices.Clone(primes)
			changed[i] = "-" + c[1:]
			checkCubes(t, f, changed)
		}
		cover, _ := card.Cover(f)
		for i := range cover {
			checkCubes(t, f, slices.Concat(cover[:i], cover[i+1:]))
			checkCubes(t, f, append(slices.Clone(cover), cover[i]))
		}
	}
}

// P1.2
func TestCheckByHand(t *testing.T) {
	for _, x := range []struct {
		function    string
		cubes       []string
		check       api.Errno
		irredundant bool
	}{
		{"0111", []string{"-1", "1-"}, api.OK, true},
		{"0111", []string{"1-", "-1"}, api.OK, true},
		{"0111", []string{"-1", "1-", "11"}, api.OK, false},
		{"0111", []string{"-1", "10"}, api.OK, true},
		{"0111", []string{"-1"}, api.ErrAnswer, false},
		{"0111", []string{"--"}, api.ErrAnswer, false},
		{"0111", nil, api.ErrAnswer, false},
		{"0000", nil, api.OK, true},
		{"0000", []string{"00"}, api.ErrAnswer, false},
		{"----", nil, api.OK, true},
		{"----", []string{"--"}, api.OK, false},
		{"1---", []string{"00", "01"}, api.OK, false},
		{"1111", []string{"--"}, api.OK, true},
		{"1111", []string{"--", "--"}, api.OK, false},
		{"10", []string{"0"}, api.OK, true},
		{"10", []string{"1"}, api.ErrAnswer, false},
	} {
		if e := card.Check(x.function, x.cubes); e != x.check {
			t.Errorf("Check(%s, %q) = %d", x.function, x.cubes, e)
		}
		if is, e := card.Irredundant(x.function, x.cubes); is != x.irredundant || e != x.check {
			t.Errorf("Irredundant(%s, %q) = %v, %d", x.function, x.cubes, is, e)
		}
	}
}

// P1.2: 32 cubes are read, 33 are not, whatever they are.
func TestManyCubes(t *testing.T) {
	ones := strings.Repeat("1", 32)
	all := words("01", 5)
	if e := card.Check(ones, all); e != api.OK {
		t.Errorf("Check of 32 cubes = %d", e)
	}
	if is, e := card.Irredundant(ones, all); !is || e != api.OK {
		t.Errorf("Irredundant of 32 cubes = %v, %d", is, e)
	}
	double := slices.Repeat([]string{"1-"}, 32)
	double[31] = "-1"
	if is, e := card.Irredundant("0111", double); is || e != api.OK {
		t.Errorf("Irredundant of 32 cubes = %v, %d", is, e)
	}
	if e := card.Check("0111", slices.Repeat([]string{"1-"}, 32)); e != api.ErrAnswer {
		t.Errorf("Check of 32 cubes that are no cover = %d", e)
	}
	for _, cubes := range [][]string{append(all, "-----"), append(all, "00000"), slices.Repeat([]string{"00000"}, 33), slices.Repeat([]string{"-----"}, 100)} {
		if e := card.Check(ones, cubes); e != api.ErrArg {
			t.Errorf("Check of %d cubes = %d", len(cubes), e)
		}
		if is, e := card.Irredundant(ones, cubes); is || e != api.ErrArg {
			t.Errorf("Irredundant of %d cubes = %v, %d", len(cubes), is, e)
		}
	}
}

// P1.2: ErrArg comes before ErrAnswer, whichever cube has it.
func TestWrongCubes(t *testing.T) {
	for _, bad := range []string{"", "1", "1--", "12", "x1", "1 ", "é", "\x00-", "-----", "------"} {
		for _, cubes := range [][]string{{bad}, {"-1", "1-", bad}, {bad, "-1", "1-"}, {"--", bad}, {bad, "--"}, {"11", bad, "11"}} {
			if e := card.Check("0111", cubes); e != api.ErrArg {
				t.Errorf("Check(0111, %q) = %d", cubes, e)
			}
			if is, e := card.Irredundant("0111", cubes); is || e != api.ErrArg {
				t.Errorf("Irredundant(0111, %q) = %v, %d", cubes, is, e)
			}
		}
	}
}

func checkApart(t *testing.T, function string) {
	t.Helper()
	if l, e := card.Apart(function); e != api.OK || !slices.Equal(l, apartOf(function)) {
		t.Errorf("Apart(%s) = %v, %d, want %v", function, l, e, apartOf(function))
	}
}

// P1.2
func TestApart(t *testing.T) {
	for _, f := range slices.Concat(smallFunctions("01-"), someFunctions("01-", 4, 40), someFunctions("01", 4, 40)) {
		checkApart(t, f)
	}
	for _, f := range slices.Concat(someFunctions("01-", 5, 100), someFunctions("01", 5, 100), someFunctions("01--", 5, 50)) {
		if strings.Count(f, "1") <= 12 {
			checkApart(t, f)
		}
	}
}

// P1.2
func TestApartByHand(t *testing.T) {
	for _, x := range []struct {
		function string
		points   []int
	}{
		{"1-01", []int{0, 3}}, {"0110", []int{1, 2}}, {"0111", []int{1, 2}}, {"1111", []int{0}}, {"0000", nil}, {"----", nil}, {"01", []int{1}}, {"-1", []int{1}},
		// In the ring of six, each second point: 1 2 4 comes before 3 5 6.
		{"01111110", []int{1, 2, 4}},
		{strings.Repeat("1", 32), []int{0}}, {strings.Repeat("0", 32), nil},
		{parity(5), []int{1, 2, 4, 7, 8, 11, 13, 14, 16, 19, 21, 22, 25, 26, 28, 31}},
	} {
		if l, e := card.Apart(x.function); e != api.OK || !slices.Equal(l, x.points) {
			t.Errorf("Apart(%s) = %v, %d, want %v", x.function, l, e, x.points)
		}
	}
}
