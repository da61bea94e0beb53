package strip

import "numnah/api"

// rows are all rows of m columns in ascending order.
func (r rule) rows(m int) []string {
	rows := []string{""}
	for range m {
		var wider []string
		for _, row := range rows {
			for b := range r.colours {
				if longer := row + digits[b:b+1]; r.isRow(longer) {
					wider = append(wider, longer)
				}
			}
		}
		rows = wider
	}
	return rows
}

// Rows returns all strings of m colours whose neighbors may stand beside each other, in ascending order.
func Rows(r api.Rule, m int) ([]string, api.Errno) {
	a, ok := readRule(r)
	if !ok || !isWidth(m) {
		return nil, api.ErrArg
	}
	return a.rows(m), api.OK
}

// Steps returns, for each of the Rows, the positions of those that may stand below it, in ascending order.
func Steps(r api.Rule, m int) ([][]int, api.Errno) {
	g, ok := readGraph(r, m)
	if !ok {
		return nil, api.ErrArg
	}
	return g.steps, api.OK
}
