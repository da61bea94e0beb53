package card

import "numnah/api"

// cube holds the variables that it fixes and their values, each as binary digits. A variable that is not fixed has the digit 0 in values, so that equal cubes are equal structs.
type cube struct {
	fixed, values int
}

// readCube reads a cube of the given number of variables and reports whether the text is one.
func readCube(text string, vars int) (cube, bool) {
	if len(text) != vars {
		return cube{}, false
	}
	var c cube
	for i := range len(text) {
		switch text[i] {
		case '0':
			c.fixed |= 1 << i
		case '1':
			c.fixed |= 1 << i
			c.values |= 1 << i
		case '-':
		default:
			return cube{}, false
		}
	}
	return c, true
}

func (c cube) text(vars int) string {
	text := make([]byte, vars)
	for i := range text {
		switch {
		case c.fixed>>i&1 == 0:
			text[i] = '-'
		case c.values>>i&1 == 0:
			text[i] = '0'
		default:
			text[i] = '1'
		}
	}
	return string(text)
}

// points are the points that a cube of the given number of variables contains.
func (c cube) points(vars int) pointSet {
	var s pointSet
	for p := range 1 << vars {
		if p&c.fixed == c.values {
			s |= single(p)
		}
	}
	return s
}

// without is the cube that no longer fixes a variable.
func (c cube) without(variable int) cube {
	kept := c.fixed &^ (1 << variable)
	return cube{fixed: kept, values: c.values & kept}
}

// texts writes cubes in their order.
func texts(cubes []cube, vars int) []string {
	list := make([]string, len(cubes))
	for i, c := range cubes {
		list[i] = c.text(vars)
	}
	return list
}

// pointSets are the points of each of the cubes.
func pointSets(cubes []cube, vars int) []pointSet {
	sets := make([]pointSet, len(cubes))
	for i, c := range cubes {
		sets[i] = c.points(vars)
	}
	return sets
}

// inOneOnly are the points that exactly one of the sets contains.
func inOneOnly(sets []pointSet) pointSet {
	var once, again pointSet
	for _, s := range sets {
		again |= once & s
		once |= s
	}
	return once &^ again
}

// Points returns the points that a cube contains, in ascending order.
func Points(cube string) ([]int, api.Errno) {
	if len(cube) < 1 || len(cube) > api.MaxVars {
		return nil, api.ErrArg
	}
	c, ok := readCube(cube, len(cube))
	if !ok {
		return nil, api.ErrArg
	}
	return c.points(len(cube)).list(), api.OK
}
