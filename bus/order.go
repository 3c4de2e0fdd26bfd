package bus

import (
	"cmp"
	"slices"

	"reveille/api"
)

// maxOrder is how many buses are put in order at most.
const maxOrder = 4096

// lined are the numbers of a list in a new one, in the order that ahead tells by a number below 0; of like ones those stand ahead that stood ahead.
func lined(l []int, ahead func(a, b int) int) []int {
	line := make([]int, len(l))
	copy(line, l)
	slices.SortStableFunc(line, ahead)
	return line
}

// Order are buses by where their windows begin.
func Order(l []int, down bool) ([]int, api.Errno) {
	if len(l) > maxOrder {
		return nil, api.ErrArg
	}
	for _, i := range l {
		if !isPlace(i) {
			return nil, api.ErrArg
		}
	}
	rising := func(a, b int) int { return cmp.Compare(table[a], table[b]) }
	falling := func(a, b int) int { return rising(b, a) }
	if down {
		return lined(l, falling), api.OK
	}
	return lined(l, rising), api.OK
}
