package strip

import "numnah/api"

// never is less than what any strip brings.
const never = -api.MaxGain*api.MaxWide*api.MaxLong - 1

// areWeights reports whether these are weights for so many colours.
func areWeights(weights [][][]int, colours int) bool {
	if len(weights) < 1 || !isLength(len(weights)) || !isWidth(len(weights[0])) {
		return false
	}
	for _, cells := range weights {
		if len(cells) != len(weights[0]) {
			return false
		}
		for _, cell := range cells {
			if !isCell(cell, colours) {
				return false
			}
		}
	}
	return true
}

func isCell(cell []int, colours int) bool {
	if len(cell) != colours {
		return false
	}
	for _, gain := range cell {
		if gain < -api.MaxGain || gain > api.MaxGain {
			return false
		}
	}
	return true
}

// sum adds up a number for each element of a list, with its position.
func sum[T any](list []T, number func(int, T) int) int {
	total := 0
	for i, x := range list {
		total += number(i, x)
	}
	return total
}

// gain is what a row brings in these cells.
func gain(cells [][]int, row string) int {
	return sum(cells, func(i int, cell []int) int {
		return cell[colour(row[i])]
	})
}

// greatest is the greatest one of the numbers of some rows, or never if there are none.
func greatest(rows []int, numbers []int) int {
	most := never
	for _, row := range rows {
		most = max(most, numbers[row])
	}
	return most
}

// gains has, by how many of the last rows of the weights are left, and by the row that stands in the first one of these, the most that they bring, or never if they cannot be laid.
func (g *graph) gains(weights [][][]int) [][]int {
	gains := [][]int{make([]int, len(g.rows))}
	for left := 1; left <= len(weights); left++ {
		cells := weights[len(weights)-left]
		most := make([]int, len(g.rows))
		for row, text := range g.rows {
			rest := 0
			if left > 1 {
				rest = greatest(g.steps[row], gains[left-1])
			}
			most[row] = never
			if rest != never {
				most[row] = rest + gain(cells, text)
			}
		}
		gains = append(gains, most)
	}
	return gains
}

// Best returns the lexicographically smallest one of the strips that keep the rule and bring the most, and what they bring.
func Best(r api.Rule, weights [][][]int) ([]string, int, api.Errno) {
	a, ok := readRule(r)
	if !ok || !areWeights(weights, a.colours) {
		return nil, 0, api.ErrArg
	}
	g, n := a.graph(len(weights[0])), len(weights)
	gains := g.gains(weights)
	most := greatest(g.all, gains[n])
	if most == never {
		return nil, 0, api.ErrNone
	}
	rest := most
	suits := func(row, left int) bool {
		if gains[left][row] != rest {
			return false
		}
		rest -= gain(weights[n-left], g.rows[row])
		return true
	}
	return g.strip(g.lay(g.all, n, suits)), most, api.OK
}
