package bus

import (
	"cmp"
	"math/bits"
	"slices"

	"reveille/api"
)

// The limits of parting.
const (
	maxWeights = 64
	maxWeight  = 1 << 50 // of all weights together
	maxTotal   = 1 << 62
	maxTurns   = 4096
)

// together is what all weights come to, and whether they are weights.
func together(weights []int64) (int64, bool) {
	if len(weights) > maxWeights {
		return 0, false
	}
	all := int64(0)
	for _, w := range weights {
		// What there is room for is asked ahead of the sum, which could wrap.
		if w < 0 || w > maxWeight-all {
			return 0, false
		}
		all += w
	}
	return all, all > 0
}

// Shares parts a bus's room by weights.
func Shares(total int64, weights []int64) ([]int64, api.Errno) {
	all, ok := together(weights)
	if !ok || total < 0 || total > maxTotal {
		return nil, api.ErrArg
	}
	parts := make([]int64, len(weights))
	over := make([]uint64, len(weights))
	places := make([]int, len(weights))
	lacks := total
	for i, w := range weights {
		// The product needs 112 bits; no weight is above all of them, so that the quotient has room.
		high, low := bits.Mul64(uint64(total), uint64(w))
		part, rest := bits.Div64(high, low, uint64(all))
		parts[i], over[i], places[i] = int64(part), rest, i
		lacks -= parts[i]
	}
	// What is left over is together what lacks times all weights, and each less than all weights: so one without any is given none.
	greatest := func(a, b int) int { return cmp.Compare(over[b], over[a]) }
	for _, i := range lined(places, greatest)[:lacks] {
		parts[i]++
	}
	return parts, api.OK
}

// Turns is who has a bus at each of so many turns.
func Turns(weights []int64, n int) ([]int, api.Errno) {
	all, ok := together(weights)
	if !ok || n < 0 || n > maxTurns {
		return nil, api.ErrArg
	}
	turns := make([]int, n)
	credits := make([]int64, len(weights))
	for at := range turns {
		for i, w := range weights {
			credits[i] += w
		}
		who := slices.Index(credits, slices.Max(credits))
		credits[who] -= all
		turns[at] = who
	}
	return turns, api.OK
}
