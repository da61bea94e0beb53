package strip_test

import (
	"reflect"
	"slices"
	"testing"

	"numnah/api"
	"numnah/strip"
)

// P4.1
func TestRowsByHand(t *testing.T) {
	apart := api.Rule{Q: 3, Beside: square(3, upwards), Below: square(3, zero)}
	for _, x := range []struct {
		r    api.Rule
		m    int
		rows []string
	}{
		{hardSquares(), 1, []string{"0", "1"}},
		{hardSquares(), 2, []string{"00", "01", "10"}},
		{hardSquares(), 3, []string{"000", "001", "010", "100", "101"}},
		{proper(), 2, []string{"01", "02", "10", "12", "20", "21"}},
		{free(1), 5, []string{"00000"}},
		{free(2), 2, []string{"00", "01", "10", "11"}},
		{apart, 1, []string{"0", "1", "2"}},
		{apart, 2, []string{"01", "02", "12"}},
		{apart, 3, []string{"012"}},
		{apart, 4, nil},
	} {
		if rows, e := strip.Rows(x.r, x.m); !slices.Equal(rows, x.rows) || e != api.OK {
			t.Errorf("Rows(%v, %d) = %q, %d, not %q", x.r, x.m, rows, e, x.rows)
		}
	}
}

// P4.1
func TestStepsByHand(t *testing.T) {
	for _, x := range []struct {
		r     api.Rule
		m     int
		steps [][]int
	}{
		{hardSquares(), 2, [][]int{{0, 1, 2}, {0, 2}, {0, 1}}},
		{proper(), 1, [][]int{{1, 2}, {0, 2}, {0, 1}}},
		{falling(), 1, [][]int{{1}, nil}},
		{falling(), 2, [][]int{{3}, nil, nil, nil}},
		{free(1), 5, [][]int{{0}}},
	} {
		if steps, e := strip.Steps(x.r, x.m); !slices.EqualFunc(steps, x.steps, slices.Equal[[]int]) || e != api.OK {
			t.Errorf("Steps(%v, %d) = %v, %d, not %v", x.r, x.m, steps, e, x.steps)
		}
	}
	if steps, e := strip.Steps(api.Rule{Q: 2, Beside: square(2, zero), Below: square(2, one)}, 2); len(steps) != 0 || e != api.OK {
		t.Errorf("Steps without rows = %v, %d", steps, e)
	}
}

// P4.1
func TestRowsAndStepsAreTheRules(t *testing.T) {
	for _, r := range slices.Concat(smallRules(), someRules(60)) {
		for m := 1; m <= api.MaxWide; m++ {
			w := walksOf(r, m)
			if rows, e := strip.Rows(r, m); !slices.Equal(rows, w.rows) || e != api.OK {
				t.Errorf("Rows(%v, %d) = %q, %d, not %q", r, m, rows, e, w.rows)
			}
			steps, e := strip.Steps(r, m)
			if len(steps) != len(w.rows) || e != api.OK {
				t.Fatalf("Steps(%v, %d) = %v, %d", r, m, steps, e)
			}
			for i, list := range steps {
				var below []int
				for j, may := range w.below[i] {
					if may {
						below = append(below, j)
					}
				}
				if !slices.Equal(list, below) {
					t.Errorf("Steps(%v, %d)[%d] = %v, not %v", r, m, i, list, below)
				}
			}
		}
	}
}

// P4.1
func TestKeepsByHand(t *testing.T) {
	downOnly := api.Rule{Q: 2, Beside: square(2, upwards), Below: square(2, one)}
	for _, x := range []struct {
		r     api.Rule
		strip []string
		keeps bool
	}{
		{hardSquares(), []string{"1"}, true},
		{hardSquares(), []string{"0101", "1010", "0101"}, true},
		{hardSquares(), []string{"0101", "1010", "0011"}, false},
		{hardSquares(), []string{"0101", "0000", "0001", "1001"}, false},
		{falling(), []string{"000", "111"}, true},
		{falling(), []string{"111", "000"}, false},
		{falling(), []string{"000", "111", "000"}, false},
		{downOnly, []string{"01", "01"}, true},
		{downOnly, []string{"10"}, false},
		{proper(), slices.Repeat([]string{"01201", "12012"}, 20), true},
		{proper(), append(slices.Repeat([]string{"01201", "12012"}, 19), "01201", "12011"), false},
		{free(3), slices.Repeat([]string{"22222"}, 40), true},
	} {
		if keeps, e := strip.Keeps(x.r, x.strip); keeps != x.keeps || e != api.OK {
			t.Errorf("Keeps(%v, %q) = %t, %d", x.r, x.strip, keeps, e)
		}
	}
}

// P4.1
func TestKeepsAllSmallStrips(t *testing.T) {
	for _, r := range slices.Concat(smallRules(), someRules(60)) {
		for m := 1; m <= 3; m++ {
			for n := 1; n <= 3; n++ {
				for _, word := range words(min(m*n, 6)/m*m, r.Q) {
					s := cut(word, m)
					if keeps, e := strip.Keeps(r, s); keeps != isKept(r, s) || e != api.OK {
						t.Errorf("Keeps(%v, %q) = %t, %d", r, s, keeps, e)
					}
				}
			}
		}
	}
}

// P4.1
func TestTurns(t *testing.T) {
	for _, r := range slices.Concat(smallRules(), someRules(100)) {
		turned, e := strip.Turn(r)
		if turned.Q != r.Q || !reflect.DeepEqual(turned.Beside, r.Below) || !reflect.DeepEqual(turned.Below, r.Beside) || e != api.OK {
			t.Errorf("Turn(%v) = %v, %d", r, turned, e)
		}
	}
}
