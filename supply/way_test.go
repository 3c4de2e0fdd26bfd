package supply_test

import (
	"math"
	"math/big"
	"slices"
	"testing"

	"reveille/api"
	"reveille/supply"
)

// P9.3: the chapter's ramps; one that goes nowhere, and one that takes longer than a float tells.
func TestRamp(t *testing.T) {
	for _, x := range []struct {
		from, to int
		slew     float64
		time     float64
	}{
		{0, 1, 1000, 1512.5},
		{1, 0, 1000, 1512.5},
		{0, 23, 1, 24200000},
		{23, 0, 0.5, 48400000},
		{3, 3, 1, 0},
		{0, 0, math.SmallestNonzeroFloat64, 0},
		{23, 23, math.MaxFloat64, 0},
		{0, 1, math.SmallestNonzeroFloat64, math.Inf(1)},
		{1, 0, math.SmallestNonzeroFloat64, math.Inf(1)},
	} {
		isRamp(t, x.from, x.to, x.slew, x.time, api.OK)
	}
}

// P9.3: of all places, held against fractions that are rounded once.
func TestRampOfAny(t *testing.T) {
	u := ruled()
	for from := range u {
		for to := range u {
			apart := new(big.Rat).SetInt64(u[to] - u[from])
			apart.Abs(apart)
			for _, slew := range evenSlews() {
				want, _ := new(big.Rat).Quo(apart, new(big.Rat).SetFloat64(slew)).Float64()
				isRamp(t, from, to, slew, want, api.OK)
			}
		}
	}
}

// P9.3, R4: wrong places and wrong slews, each alone and together.
func TestRampOfOdd(t *testing.T) {
	for _, slew := range append(oddSlews(), evenSlews()...) {
		for _, odd := range oddPlaces() {
			isRamp(t, odd, 1, slew, 0, api.ErrArg)
			isRamp(t, 0, odd, slew, 0, api.ErrArg)
			isRamp(t, odd, odd, slew, 0, api.ErrArg)
		}
	}
	for _, slew := range oddSlews() {
		isRamp(t, 0, 1, slew, 0, api.ErrArg)
		isRamp(t, 23, 0, slew, 0, api.ErrArg)
		isRamp(t, 5, 5, slew, 0, api.ErrArg)
	}
}

// P9.6: the ramps between neighbours on the way sum to the whole one, but for rounding; both ways it is the same.
func TestRampsSum(t *testing.T) {
	for from := range supply.Rails {
		for to := range supply.Rails {
			for _, slew := range []float64{0.1, 3, 1000, 12500.5, 1e300} {
				whole, _ := supply.Ramp(from, to, slew)
				isRamp(t, to, from, slew, whole, api.OK)
				way, sum := wayOf(t, from, to), 0.0
				for i := 1; i < len(way); i++ {
					part, e := supply.Ramp(way[i-1], way[i], slew)
					if e != api.OK || part <= 0 {
						t.Errorf("Ramp(%d, %d, %v): %v %d", way[i-1], way[i], slew, part, e)
					}
					sum += part
				}
				if math.Abs(sum-whole) > whole*1e-12 {
					t.Errorf("the way %v with %v: %v, want %v", way, slew, sum, whole)
				}
			}
		}
	}
}

// P9.3: the chapter's ways, and the longest ones.
func TestWay(t *testing.T) {
	for _, x := range []struct {
		from, to int
		way      []int
	}{
		{2, 0, []int{2, 1, 0}},
		{0, 2, []int{0, 1, 2}},
		{3, 3, []int{3}},
		{0, 0, []int{0}},
		{23, 23, []int{23}},
		{22, 23, []int{22, 23}},
		{23, 22, []int{23, 22}},
	} {
		if way := wayOf(t, x.from, x.to); !slices.Equal(way, x.way) {
			t.Errorf("Way(%d, %d): %v, want %v", x.from, x.to, way, x.way)
		}
	}
}

// P9.3: of all places: both ends, each beside the one ahead of it, and no place twice; both ways it is the same.
func TestWayOfAny(t *testing.T) {
	for from := range supply.Rails {
		for to := range supply.Rails {
			var want []int
			for i := min(from, to); i <= max(from, to); i++ {
				want = append(want, i)
			}
			if to < from {
				slices.Reverse(want)
			}
			if way := wayOf(t, from, to); !slices.Equal(way, want) {
				t.Errorf("Way(%d, %d): %v, want %v", from, to, way, want)
			}
		}
	}
}

// P9.3, R4: wrong places, the one, the other and both.
func TestWayOfOdd(t *testing.T) {
	for _, odd := range oddPlaces() {
		for _, x := range [][2]int{{odd, 0}, {0, odd}, {odd, 23}, {23, odd}, {odd, odd}} {
			if way, e := supply.Way(x[0], x[1]); len(way) != 0 || e != api.ErrArg {
				t.Errorf("Way(%d, %d): %v %d", x[0], x[1], way, e)
			}
		}
	}
}

// isRamp asks how long a ramp takes; the noughts are told apart.
func isRamp(t *testing.T, from, to int, slew, time float64, e api.Errno) {
	t.Helper()
	x, got := supply.Ramp(from, to, slew)
	if math.Float64bits(x) != math.Float64bits(time) || got != e {
		t.Errorf("Ramp(%d, %d, %v): %v %d, want %v %d", from, to, slew, x, got, time, e)
	}
}

// wayOf is a way that there is.
func wayOf(t *testing.T, from, to int) []int {
	t.Helper()
	way, e := supply.Way(from, to)
	if e != api.OK || len(way) == 0 {
		t.Fatalf("Way(%d, %d): %v %d", from, to, way, e)
	}
	return way
}
