package roller

import "numnah/api"

// maxPower is the greatest number of a power.
const maxPower = 1 << 60

// nextPower is a power times the matrix; it reports whether no number is greater than maxPower.
func (m matrix) nextPower(power grid) (grid, bool) {
	var next grid
	for i := range m.size {
		for j := range m.size {
			sum := 0
			for k := range m.size {
				factor := m.at[k][j]
				// A product may be outside of the range of int, so it is not computed before it is known to fit.
				if factor > 0 && power[i][k] > (maxPower-sum)/factor {
					return grid{}, false
				}
				sum += power[i][k] * factor
			}
			next[i][j] = sum
		}
	}
	return next, true
}

// Power returns the power k.
func Power(m [][]int, k int) ([][]int, api.Errno) {
	a, ok := readMatrix(m)
	if !ok || k < 0 || k > api.MaxWalk {
		return nil, api.ErrArg
	}
	power := identity(a.size)
	for range k {
		power, ok = a.nextPower(power)
		if !ok {
			return nil, api.ErrFull
		}
	}
	return power.lists(a.size), api.OK
}

// Exponent returns the smallest k from 1 on for which the power k has positive numbers only.
func Exponent(m [][]int) (int, api.Errno) {
	a, ok := readMatrix(m)
	if !ok {
		return 0, api.ErrArg
	}
	steps := a.steps()
	all := everything(a.size)
	positive := steps
	// No exponent is greater (P2.6), so a matrix without one up to there has none.
	greatest := (a.size-1)*(a.size-1) + 1
	for k := range greatest {
		if positive == all {
			return k + 1, api.OK
		}
		positive = positive.then(steps)
	}
	return 0, api.ErrNone
}
