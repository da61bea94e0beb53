package card

import (
	"math/bits"

	"numnah/api"
)

// Sum returns the string whose positions with 1, each taken where its digits are among those of the point, add up to the values modulo 2.
func Sum(function string) (string, api.Errno) {
	f, ok := readTotal(function)
	if !ok {
		return "", api.ErrArg
	}
	sum := f.sum()
	text := make([]byte, f.size())
	for p := range text {
		text[p] = '0'
		if sum.has(p) {
			text[p] = '1'
		}
	}
	return string(text), api.OK
}

// sum holds the positions with 1 of Sum. It takes out one variable after another.
func (f table) sum() pointSet {
	sum := f.ones
	for i := range f.vars {
		for p := range f.size() {
			if p>>i&1 == 1 && sum.has(p^1<<i) {
				sum ^= single(p)
			}
		}
	}
	return sum
}

// Measures returns the degree, the sensitivity, the certificate and the number of ones of a function.
func Measures(function string) (api.Measures, api.Errno) {
	f, ok := readTotal(function)
	if !ok {
		return api.Measures{}, api.ErrArg
	}
	m := api.Measures{Ones: f.ones.size()}
	for _, p := range f.sum().list() {
		m.Degree = max(m.Degree, bits.OnesCount(uint(p)))
	}
	for p := range f.size() {
		m.Sensitivity = max(m.Sensitivity, f.sensitivity(p))
		m.Certificate = max(m.Certificate, f.certificate(p))
	}
	return m, api.OK
}

// sensitivity is the number of the variables each of which alone changes the value at the point.
func (f table) sensitivity(point int) int {
	count := 0
	for i := range f.vars {
		if f.ones.has(point) != f.ones.has(point^1<<i) {
			count++
		}
	}
	return count
}

// certificate is the smallest number of variables whose values at the point decide the value.
func (f table) certificate(point int) int {
	fewest := f.vars
	for fixed := range f.size() {
		points := cube{fixed: fixed, values: point & fixed}.points(f.vars)
		if points&f.ones == 0 || points&f.zeros == 0 {
			fewest = min(fewest, bits.OnesCount(uint(fixed)))
		}
	}
	return fewest
}
