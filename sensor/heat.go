package sensor

// The heat at the curve's ends, and from one point to the next, in degrees times a thousand.
const (
	coldest = -40000
	step    = 10000
	hottest = coldest + step*(Points-1)
)

// floor is the greatest whole number not above n divided by a number above 0; the language's own division would go up below 0.
func floor(n, by int64) int64 {
	whole := n / by
	if n%by < 0 {
		whole--
	}
	return whole
}

// Milli is the heat that a voltage tells, in degrees times a thousand, and whether the voltage is on the curve.
func Milli(micro int64) (int32, bool) {
	const last = Points - 1
	if micro < table[0] {
		return coldest, false
	}
	if micro >= table[last] {
		return hottest, micro == table[last]
	}
	i := last - 1
	for table[i] > micro {
		i--
	}
	beyond := step * (micro - table[i]) / (table[i+1] - table[i])
	return int32(coldest + step*int64(i) + beyond), true
}

// Degrees is it in degrees, the nearest ones.
func Degrees(micro int64) (int8, bool) {
	milli, on := Milli(micro)
	return int8(floor(int64(milli)+500, 1000)), on
}

// Kelvin is it above the absolute nought.
func Kelvin(micro int64) float64 {
	milli, _ := Milli(micro)
	return float64(milli)/1000 + 273.15
}
