package radio

import "reveille/api"

// MaxHops is how many hops are told at most.
const MaxHops = 4096

// unseeded stands for the seed 0, out of which nothing but 0 would come.
const unseeded uint64 = 0x9E3779B97F4A7C15

// mixed are a row, whose places have changed their bands by the numbers that follow x, and the last one of these.
func mixed(row [Bands]int, x uint64) ([Bands]int, uint64) {
	for k := Bands - 1; k > 0; k-- {
		x ^= x << 13
		x ^= x >> 7
		x ^= x << 17
		at := x % uint64(k+1)
		row[k], row[at] = row[at], row[k]
	}
	return row, x
}

// Hops are bands, one behind the other, out of a seed.
func Hops(seed uint64, n int) ([]int, api.Errno) {
	if n < 0 || n > MaxHops {
		return nil, api.ErrArg
	}
	x := seed
	if x == 0 {
		x = unseeded
	}
	var row [Bands]int
	for i := range row {
		row[i] = i
	}
	hops := make([]int, 0, n)
	for len(hops) < n {
		row, x = mixed(row, x)
		told := len(hops)
		if told > 0 && row[0] == hops[told-1] {
			row[0], row[1] = row[1], row[0]
		}
		hops = append(hops, row[:min(Bands, n-told)]...)
	}
	return hops, api.OK
}
