package words

import (
	"math"
	"strconv"
	"strings"

	"reveille/api"
)

// Number is the number that digits say.
func Number(s string) (int64, api.Errno) {
	n, err := strconv.ParseInt(s, 10, 64)
	// The library reads +1, -0 and 01 too; only the one form that it writes is taken.
	if err != nil || strconv.FormatInt(n, 10) != s {
		return 0, api.ErrNumber
	}
	return n, api.OK
}

// Hex is the number that digits to the base 16 say.
func Hex(s string) (uint64, api.Errno) {
	n, err := strconv.ParseUint(strings.TrimPrefix(s, "0x"), 16, 64)
	// A form without 0x, with great letters or with noughts ahead is read as well: Digits tells it apart.
	if err != nil || Digits(n) != s {
		return 0, api.ErrNumber
	}
	return n, api.OK
}

// Digits are a number's, to the base 16.
func Digits(n uint64) string { return "0x" + strconv.FormatUint(n, 16) }

// Wrap8 is a number's low eight bits.
func Wrap8(n int64) int8 { return int8(n) }

// Sat8 is the nearest number of eight bits.
func Sat8(n int64) int8 { return int8(min(max(n, math.MinInt8), math.MaxInt8)) }

// Wrap16 is a number's low sixteen bits.
func Wrap16(n int64) int16 { return int16(n) }

// Sat16 is the nearest number of sixteen bits.
func Sat16(n int64) int16 { return int16(min(max(n, math.MinInt16), math.MaxInt16)) }

// Mean is the mean of small numbers, to below.
func Mean(l []int8) (int8, api.Errno) {
	if len(l) == 0 {
		return 0, api.ErrArg
	}
	sum, count := int64(0), int64(len(l))
	for _, n := range l {
		sum += int64(n)
	}
	mean := sum / count
	// Division goes towards nought, the mean goes down.
	if sum%count < 0 {
		mean--
	}
	return Wrap8(mean), api.OK
}

// Step is a number and another one added to it, stopped at the ends.
func Step(a, b int16) (int16, bool) {
	sum := int64(a) + int64(b)
	s := Sat16(sum)
	return s, int64(s) == sum
}
