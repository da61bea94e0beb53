package card_test

import (
	"math/bits"
	"slices"
	"strings"
	"testing"

	"numnah/api"
	"numnah/card"
)

func checkSum(t *testing.T, function string) {
	t.Helper()
	sum, e := card.Sum(function)
	if e != api.OK || !sumsTo(function, sum) {
		t.Errorf("Sum(%s) = %s, %d", function, sum, e)
		return
	}
	degree := 0
	for p := range sum {
		if sum[p] == '1' {
			degree = max(degree, bits.OnesCount(uint(p)))
		}
	}
	want := api.Measures{Degree: degree, Sensitivity: sensitivityOf(function), Certificate: certificateOf(function), Ones: strings.Count(function, "1")}
	if m, e := card.Measures(function); e != api.OK || m != want {
		t.Errorf("Measures(%s) = %v, %d, want %v", function, m, e, want)
	}
}

// P1.3
func TestSumsAndMeasures(t *testing.T) {
	for _, f := range slices.Concat(smallFunctions("01"), someFunctions("01", 4, 300), someFunctions("01", 5, 100)) {
		checkSum(t, f)
	}
}

// P1.3
func TestSumsByHand(t *testing.T) {
	for _, x := range []struct{ function, sum string }{
		{"0111", "0111"}, {"0110", "0110"}, {"0001", "0001"}, {"1000", "1111"}, {"1111", "1000"}, {"0000", "0000"},
		{"10", "11"}, {"01", "01"}, {"11", "10"}, {"00", "00"}, {"0100", "0101"}, {"00010111", "00010110"},
		{parity(5), "01101000100000001000000000000000"},
		{strings.Repeat("1", 32), "1" + strings.Repeat("0", 31)},
		{"1" + strings.Repeat("0", 31), strings.Repeat("1", 32)},
		{strings.Repeat("0", 32), strings.Repeat("0", 32)},
	} {
		if s, e := card.Sum(x.function); e != api.OK || s != x.sum {
			t.Errorf("Sum(%s) = %s, %d, want %s", x.function, s, e, x.sum)
		}
	}
}

// P1.3
func TestMeasuresByHand(t *testing.T) {
	for _, x := range []struct {
		function string
		measures api.Measures
	}{
		{"0111", api.Measures{Degree: 2, Sensitivity: 2, Certificate: 2, Ones: 3}},
		{"0000", api.Measures{}}, {"00", api.Measures{}}, {"11", api.Measures{Ones: 2}},
		{strings.Repeat("0", 32), api.Measures{}}, {strings.Repeat("1", 32), api.Measures{Ones: 32}},
		{"01", api.Measures{Degree: 1, Sensitivity: 1, Certificate: 1, Ones: 1}},
		{"0101", api.Measures{Degree: 1, Sensitivity: 1, Certificate: 1, Ones: 2}},
		{parity(5), api.Measures{Degree: 1, Sensitivity: 5, Certificate: 5, Ones: 16}},
		{strings.Repeat("0", 31) + "1", api.Measures{Degree: 5, Sensitivity: 5, Certificate: 5, Ones: 1}},
		{"00010111", api.Measures{Degree: 2, Sensitivity: 2, Certificate: 2, Ones: 4}},
		// All three variables are equal.
		{"10000001", api.Measures{Degree: 2, Sensitivity: 3, Certificate: 3, Ones: 2}},
		// The variable 0 chooses between the variables 1 and 2.
		{"00011011", api.Measures{Degree: 2, Sensitivity: 2, Certificate: 2, Ones: 4}},
		// The four variables ascend or descend: a certificate greater than the sensitivity.
		{"1101000110001011", api.Measures{Degree: 2, Sensitivity: 2, Certificate: 3, Ones: 8}},
	} {
		if m, e := card.Measures(x.function); e != api.OK || m != x.measures {
			t.Errorf("Measures(%s) = %v, %d, want %v", x.function, m, e, x.measures)
		}
	}
}
