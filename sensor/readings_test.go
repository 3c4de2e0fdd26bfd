package sensor_test

import (
	"math"
	"math/rand/v2"
	"slices"
	"testing"

	"reveille/api"
	"reveille/sensor"
)

// P11.2: the chapter's numbers of sixteen bits, and those about the ends.
func TestRaw(t *testing.T) {
	for micro, want := range map[int64][2]int16{
		40000000: {-25536, 32767}, -1: {-1, -1}, 5999: {5, 5}, 0: {0, 0}, 999: {0, 0}, 1000: {1, 1}, -1000: {-1, -1}, -1001: {-2, -2},
		32767000: {32767, 32767}, 32767999: {32767, 32767}, 32768000: {-32768, 32767}, 65535999: {-1, 32767}, 65536000: {0, 32767},
		-32768000: {-32768, -32768}, -32767001: {-32768, -32768}, -32768001: {32767, -32768}, -65536000: {0, -32768}, -65536001: {-1, -32768},
	} {
		isRaw(t, micro, want[0], want[1])
	}
	for _, micro := range []int64{math.MaxInt64, math.MaxInt64 - 1, 1 << 62, math.MinInt64, math.MinInt64 + 1, math.MinInt64 + 807, math.MinInt64 + 808, -1 << 62} {
		wrapped, nearest := slowRaw(micro)
		isRaw(t, micro, wrapped, nearest)
	}
}

// P11.2: of any voltages, in numbers of any size.
func TestRawOfAny(t *testing.T) {
	r := rand.New(rand.NewPCG(11, 5))
	for range 50000 {
		micro := int64(r.Uint64()) >> r.IntN(64)
		if r.IntN(3) == 0 { // about where it goes round
			micro = (r.Int64N(9)-4)*32768000 + r.Int64N(4001) - 2000
		}
		wrapped, nearest := slowRaw(micro)
		isRaw(t, micro, wrapped, nearest)
	}
}

// P11.2: the chapter's zones, and the ends of degrees.
func TestZone(t *testing.T) {
	for _, x := range []struct {
		marks   []int8
		degrees int8
		zone    int
	}{
		{[]int8{10, 20, 30}, 20, 2}, {[]int8{10, 20, 30}, 19, 1}, {[]int8{10, 20, 30}, 9, 0}, {[]int8{10, 20, 30}, 127, 3},
		{nil, 0, 0}, {nil, 127, 0}, {[]int8{}, -128, 0}, {[]int8{0}, 0, 1}, {[]int8{0}, -1, 0}, {[]int8{-128}, -128, 1},
		{[]int8{-128, 127}, 126, 1}, {[]int8{-128, 127}, 127, 2}, {[]int8{-128, 127}, -128, 1}, {[]int8{127}, -128, 0}, {[]int8{-5, -4}, -5, 1},
	} {
		isZone(t, x.marks, x.degrees, x.zone, api.OK)
	}
}

// P11.2, P11.4: of all sets of a few marks, and all degrees: so many are not above them, the others are.
func TestZoneOfAll(t *testing.T) {
	for set := range uint64(1 << 8) {
		for _, marks := range [][]int8{rising(set, -3, 1), rising(set, 120, 1), rising(set, -128, 36), rising(set, -128, 1)} {
			for degrees := -128; degrees <= 127; degrees++ {
				zone := slowZone(marks, int8(degrees))
				isZone(t, marks, int8(degrees), zone, api.OK)
				isParted(t, marks, int8(degrees), zone)
			}
		}
	}
}

// isParted asks whether the marks ahead of the zone are reached, and those behind it not.
func isParted(t *testing.T, marks []int8, degrees int8, zone int) {
	t.Helper()
	reached := func(mark int8) bool { return mark <= degrees }
	if slices.ContainsFunc(marks[zone:], reached) {
		t.Errorf("%v: one behind the zone %d is not above %d", marks, zone, degrees)
	}
	for _, mark := range marks[:zone] {
		if !reached(mark) {
			t.Errorf("%v: one ahead of the zone %d is above %d", marks, zone, degrees)
		}
	}
}

// P11.4: a mark more is a zone more at most, and none less.
func TestZoneOfOneMore(t *testing.T) {
	r := rand.New(rand.NewPCG(11, 6))
	for range 2000 {
		marks := rising(r.Uint64(), -128+r.IntN(64), 1+r.IntN(2))
		degrees := int8(r.IntN(256) - 128)
		all, e := sensor.Zone(marks, degrees)
		for i, mark := range marks {
			less, f := sensor.Zone(slices.Delete(slices.Clone(marks), i, i+1), degrees)
			more := 0
			if mark <= degrees {
				more = 1
			}
			if e != api.OK || f != api.OK || all != less+more {
				t.Errorf("%v without the mark %d at %d: %d %d, with it %d %d", marks, i, degrees, less, f, all, e)
			}
		}
	}
}

// P11.2, R4: marks that do not rise, at their beginning, in their midst and at their end; and too many of them.
func TestZoneOfOdd(t *testing.T) {
	long := rising(1<<64-1, -64, 2)
	for _, degrees := range []int8{-128, -1, 0, 1, 30, 127} {
		for _, marks := range [][]int8{
			{5, 5}, {6, 5}, {0, 0}, {127, -128}, {127, 127}, {-128, -128}, {0, -1}, {1, 2, 2}, {2, 2, 3}, {1, 3, 2}, {3, 1, 2}, {1, 2, 3, 4, 4},
			{-1, -2}, {10, 20, 30, 29}, {10, 9, 20, 30}, {1, 2, 3, 1}, {-128, 127, -127},
			append(slices.Clone(long), 127), make([]int8, 64), make([]int8, 65), make([]int8, 4096), rising(1<<64-1, 100, 1),
		} {
			isZone(t, marks, degrees, 0, api.ErrArg)
		}
		isZone(t, long, degrees, slowZone(long, degrees), api.OK)
		for i := range long[1:] {
			marks := slices.Clone(long)
			marks[i+1] = marks[i]
			isZone(t, marks, degrees, 0, api.ErrArg)
		}
	}
}

// P11.2: the chapter's medians, and the ends.
func TestMedian(t *testing.T) {
	for _, x := range []struct {
		l      []int8
		median int8
	}{
		{[]int8{3, 1, 2}, 2}, {[]int8{4, 1}, 1}, {[]int8{1, 4}, 1}, {[]int8{7}, 7}, {[]int8{-128}, -128}, {[]int8{127, -128}, -128},
		{[]int8{4, 3, 2, 1}, 2}, {[]int8{5, 5, 5, 1}, 5}, {[]int8{1, 1, 5, 5}, 1}, {[]int8{-1, 0, 1}, 0}, {[]int8{0, -1}, -1},
		{[]int8{127, 127, -128}, 127}, {[]int8{-128, -128, 127}, -128}, {[]int8{5, 4, 3, 2, 1}, 3}, {[]int8{6, 5, 4, 3, 2, 1}, 3},
	} {
		isMedian(t, x.l, x.median, api.OK)
	}
}

// P11.2, P11.4: of all lists of up to six of four readings; so in each order of them.
func TestMedianOfAll(t *testing.T) {
	readings := [4]int8{-128, -1, 0, 127}
	for n := 1; n <= 6; n++ {
		for number := range 1 << (2 * n) {
			l := []int8{}
			for k := range n {
				l = append(l, readings[number>>(2*k)&3])
			}
			isMedian(t, l, slowMedian(l), api.OK)
		}
	}
}

// P11.4: of any readings, the longest lists too: at least half of them are not above it, and half not below; their order is not seen.
func TestMedianOfAny(t *testing.T) {
	r := rand.New(rand.NewPCG(11, 7))
	lists := [][]int8{anyReadings(r, 4096), anyReadings(r, 4095)}
	for range 500 {
		lists = append(lists, anyReadings(r, 1+r.IntN(100)))
	}
	for _, l := range lists {
		median := slowMedian(l)
		isMedian(t, l, median, api.OK)
		isHalf(t, l, median)
		r.Shuffle(len(l), func(i, k int) { l[i], l[k] = l[k], l[i] })
		isMedian(t, l, median, api.OK)
		slices.Sort(l)
		isMedian(t, l, median, api.OK)
		slices.Reverse(l)
		isMedian(t, l, median, api.OK)
	}
}

// isHalf asks whether half of the readings at least are not above one, and half not below.
func isHalf(t *testing.T, l []int8, median int8) {
	t.Helper()
	notAbove, notBelow := 0, 0
	for _, x := range l {
		if x <= median {
			notAbove++
		}
		if x >= median {
			notBelow++
		}
	}
	if 2*notAbove < len(l) || 2*notBelow < len(l) {
		t.Errorf("%v: %d not above %d, %d not below", l, notAbove, median, notBelow)
	}
}

// P11.2, R4: no readings, and one too many.
func TestMedianOfOdd(t *testing.T) {
	isMedian(t, nil, 0, api.ErrArg)
	isMedian(t, []int8{}, 0, api.ErrArg)
	long := slices.Repeat([]int8{5}, 1<<16)
	isMedian(t, long[:4096], 5, api.OK)
	isMedian(t, long[:4097], 0, api.ErrArg)
	isMedian(t, long, 0, api.ErrArg)
}

// isRaw asks for a voltage in sixteen bits, isZone for how many marks are reached, isMedian for the middle reading.
func isRaw(t *testing.T, micro int64, wrapped, nearest int16) {
	t.Helper()
	if w, n := sensor.Raw(micro); w != wrapped || n != nearest {
		t.Errorf("Raw(%d): %d %d, want %d %d", micro, w, n, wrapped, nearest)
	}
}

func isZone(t *testing.T, marks []int8, degrees int8, zone int, e api.Errno) {
	t.Helper()
	if n, got := sensor.Zone(marks, degrees); n != zone || got != e {
		t.Errorf("Zone(%v, %d): %d %d, want %d %d", marks, degrees, n, got, zone, e)
	}
}

func isMedian(t *testing.T, l []int8, median int8, e api.Errno) {
	t.Helper()
	if n, got := sensor.Median(l); n != median || got != e {
		t.Errorf("Median(%v): %d %d, want %d %d", l, n, got, median, e)
	}
}
