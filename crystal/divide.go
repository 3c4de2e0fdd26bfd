package crystal

import "reveille/api"

// The limits of dividing.
const (
	maxRate    = 1 << 40 // of a rate that is divided, or wanted
	maxDivider = 65535
	maxChain   = 64 // dividers of a chain
)

// isDivider says whether a rate may be divided by a number.
func isDivider(d int64) bool { return d >= 1 && d <= maxDivider }

// Divider is by what a rate is divided, so that no more than another one is left.
func Divider(from, want int64) (int64, api.Errno) {
	if from < 1 || from > maxRate || want < 1 || want > maxRate {
		return 0, api.ErrArg
	}
	d := (from + want - 1) / want
	if !isDivider(d) {
		return 0, api.ErrNone
	}
	return d, api.OK
}

// Chain is what is left of a rate behind dividers.
func Chain(from int64, by []int64) (int64, api.Errno) {
	if from < 0 || from > maxRate || len(by) > maxChain {
		return 0, api.ErrArg
	}
	for _, d := range by {
		if !isDivider(d) {
			return 0, api.ErrArg
		}
		from /= d
	}
	return from, api.OK
}
