package bus_test

import (
	"math/rand/v2"
	"slices"
	"testing"

	"reveille/api"
	"reveille/bus"
)

// anyBuses are n of them, in any order.
func anyBuses(r *rand.Rand, n int) []int {
	l := []int{}
	for range n {
		l = append(l, r.IntN(bus.Lines))
	}
	return l
}

// P10.4: the chapter's, and the ends.
func TestOrder(t *testing.T) {
	for _, x := range []struct {
		l    []int
		down bool
		line []int
	}{
		{[]int{3, 1, 2}, false, []int{1, 2, 3}},
		{[]int{3, 1, 2, 1}, true, []int{3, 2, 1, 1}},
		{[]int{3, 1, 2, 1}, false, []int{1, 1, 2, 3}},
		{[]int{19, 0}, false, []int{0, 19}},
		{[]int{0, 19}, true, []int{19, 0}},
		{[]int{7}, false, []int{7}},
		{[]int{7}, true, []int{7}},
		{nil, false, nil},
		{nil, true, nil},
		{[]int{}, false, nil},
		{[]int{}, true, nil},
	} {
		isOrder(t, x.l, x.down, x.line, api.OK)
	}
}

// P10.4: of any lists, of the longest ones too, held against the slow one; what was put in order stays so.
func TestOrderOfAny(t *testing.T) {
	r := rand.New(rand.NewPCG(10, 7))
	for range 2000 {
		l := anyBuses(r, r.IntN(60))
		for _, down := range []bool{false, true} {
			line := slowOrder(l, down)
			isOrder(t, l, down, line, api.OK)
			isOrder(t, line, down, line, api.OK)
		}
	}
	long := anyBuses(r, 4096)
	isOrder(t, long, false, slowOrder(long, false), api.OK)
	isOrder(t, long, true, slowOrder(long, true), api.OK)
}

// P10.4, R4: one that is no bus, alone and anywhere among others; and one too many.
func TestOrderOfOdd(t *testing.T) {
	for _, down := range []bool{false, true} {
		for _, odd := range oddPlaces() {
			isOrder(t, []int{odd}, down, nil, api.ErrArg)
			for at := range 5 {
				l := []int{4, 0, 19, 7, 7}
				l[at] = odd
				isOrder(t, l, down, nil, api.ErrArg)
			}
		}
		isOrder(t, make([]int, 4096), down, make([]int, 4096), api.OK)
		isOrder(t, make([]int, 4097), down, nil, api.ErrArg)
		isOrder(t, make([]int, 1<<16), down, nil, api.ErrArg)
		last := make([]int, 4096)
		last[4095] = 20
		isOrder(t, last, down, nil, api.ErrArg)
	}
}

// isOrder asks for buses in order.
func isOrder(t *testing.T, l []int, down bool, line []int, e api.Errno) {
	t.Helper()
	if got, f := bus.Order(l, down); !slices.Equal(got, line) || f != e {
		t.Errorf("Order(%v, %v): %v %d, want %v %d", l, down, got, f, line, e)
	}
}
