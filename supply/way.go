package supply

import (
	"math"

	"reveille/api"
)

// isSlew says whether volts may rise or fall as fast as that; of no number it is false.
func isSlew(slew float64) bool { return slew > 0 && slew <= math.MaxFloat64 }

// Ramp is how long it takes from one entry to another one.
func Ramp(from, to int, slew float64) (float64, api.Errno) {
	if !isPlace(from) || !isPlace(to) || !isSlew(slew) {
		return 0, api.ErrArg
	}
	apart := max(table[to]-table[from], table[from]-table[to])
	return float64(apart) / slew, api.OK
}

// Way is the places from one entry to another one, both with them.
func Way(from, to int) ([]int, api.Errno) {
	if !isPlace(from) || !isPlace(to) {
		return nil, api.ErrArg
	}
	step := 1
	if to < from {
		step = -1
	}
	way := []int{from}
	for i := from; i != to; i += step {
		way = append(way, i+step)
	}
	return way, api.OK
}
