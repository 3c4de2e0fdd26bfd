package sensor

import (
	"math"
	"slices"

	"reveille/api"
)

// The limits of lists.
const (
	maxMarks    = 64
	maxReadings = 4096
)

// Raw is a voltage as a number of sixteen bits: what is left of it, and the nearest.
func Raw(micro int64) (wrapped, nearest int16) {
	n := floor(micro, 1000)
	return int16(n), int16(min(max(n, math.MinInt16), math.MaxInt16))
}

// Zone is how many of some marks are reached.
func Zone(marks []int8, degrees int8) (int, api.Errno) {
	if len(marks) > maxMarks {
		return 0, api.ErrArg
	}
	reached := 0
	for i, mark := range marks {
		if i > 0 && mark <= marks[i-1] {
			return 0, api.ErrArg
		}
		if mark <= degrees {
			reached = i + 1
		}
	}
	return reached, api.OK
}

// Median is the middle one of some readings; of an even number the one ahead of the middle.
func Median(l []int8) (int8, api.Errno) {
	if len(l) < 1 || len(l) > maxReadings {
		return 0, api.ErrArg
	}
	// The caller's own stay in their order.
	line := make([]int8, len(l))
	copy(line, l)
	slices.Sort(line)
	return line[(len(line)-1)/2], api.OK
}
