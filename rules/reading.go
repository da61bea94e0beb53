package rules

import (
	"iter"

	"numnah/api"
)

// maxValue is the greatest size of a term whose value is asked for.
const maxValue = 12

// linear is the value of a term: a constant, and the factors of the variables.
type linear [1 + len(variables)]int

// limits are the smallest and the greatest number at a place of a list of a reading.
func limits(place int) (int, int) {
	if place == 0 {
		return 0, api.MaxFirst
	}
	return 1, api.MaxFactor
}

func isReading(reading [][]int) bool {
	if len(reading) != len(symbols) {
		return false
	}
	for symbol, list := range reading {
		if len(list) != 1+partsOfSymbol(symbol) {
			return false
		}
		for place, n := range list {
			if least, most := limits(place); n < least || n > most {
				return false
			}
		}
	}
	return true
}

// leastReading has the smallest number everywhere.
func leastReading() [][]int {
	var reading [][]int
	for symbol := range symbols {
		list := make([]int, 1+partsOfSymbol(symbol))
		for place := range list {
			list[place], _ = limits(place)
		}
		reading = append(reading, list)
	}
	return reading
}

// advance turns a reading into the one after it, as a counter is turned: the first number that can grow grows, and those before it start again. It reports whether there is one.
func advance(reading [][]int) bool {
	for _, list := range reading {
		for place := range list {
			least, most := limits(place)
			if list[place] < most {
				list[place]++
				return true
			}
			list[place] = least
		}
	}
	return false
}

// readings are all readings, in memory that changes from one to the next.
func readings() iter.Seq[[][]int] {
	return func(yield func([][]int) bool) {
		reading := leastReading()
		for yield(reading) && advance(reading) {
		}
	}
}

func value(reading [][]int, t node) linear {
	var sum linear
	switch t := t.(type) {
	case variable:
		sum[1+t] = 1
	case application:
		numbers := reading[t.symbol]
		sum[0] = numbers[0]
		for i, part := range t.parts {
			for k, n := range value(reading, part) {
				sum[k] += numbers[1+i] * n
			}
		}
	}
	return sum
}

// exceeds reports whether a value is greater than another one for all variables from 0 on: so it is if the constant is greater, which counts where all of them are 0, and no factor is less, which would count where its variable is great.
func (l linear) exceeds(other linear) bool {
	for k := 1; k < len(l); k++ {
		if l[k] < other[k] {
			return false
		}
	}
	return l[0] > other[0]
}

// decreasesAll reports whether a reading decreases all rules.
func decreasesAll(reading [][]int, laws []law) bool {
	for _, l := range laws {
		if !value(reading, l.left).exceeds(value(reading, l.right)) {
			return false
		}
	}
	return true
}

// Value returns the value of a term: the constant, and the factors of the variables.
func Value(reading [][]int, term string) ([4]int, api.Errno) {
	if !isReading(reading) {
		return [4]int{}, api.ErrArg
	}
	t, ok := readTerm(term)
	if !ok {
		return [4]int{}, api.ErrSyntax
	}
	if t.size() > maxValue {
		return [4]int{}, api.ErrFull
	}
	return value(reading, t), api.OK
}

// Reading returns a reading that decreases all rules.
func Reading(rules []api.Law) ([][]int, api.Errno) {
	laws, ok := readLaws(rules)
	if !ok {
		return nil, api.ErrArg
	}
	for reading := range readings() {
		if decreasesAll(reading, laws) {
			return reading, api.OK
		}
	}
	return nil, api.ErrNone
}

// Decreases returns OK if a reading decreases all rules.
func Decreases(rules []api.Law, reading [][]int) api.Errno {
	laws, ok := readLaws(rules)
	if !ok || !isReading(reading) {
		return api.ErrArg
	}
	if !decreasesAll(reading, laws) {
		return api.ErrAnswer
	}
	return api.OK
}
