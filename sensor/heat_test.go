package sensor_test

import (
	"math"
	"math/rand/v2"
	"slices"
	"testing"

	"reveille/sensor"
)

// P11.1: the chapter's voltages, and the curve's ends: what lies past them is told all the same, with a false.
func TestMilli(t *testing.T) {
	for micro, milli := range map[int64]int32{
		625000: -40000, 625001: -40000, 625150: -39999, 1373750: -35000, 2122499: -30001, 2122500: -30000, 2633750: -25000,
		3145000: -20000, 15415000: 100000, 16176250: 105000, 16937499: 109999, 16937500: 110000,
	} {
		isMilli(t, micro, milli, true)
	}
	for _, below := range []int64{624999, 624998, 1, 0, -1, -625000, -16937500, math.MinInt64, math.MinInt64 + 1, -1 << 62} {
		isMilli(t, below, -40000, false)
	}
	for _, above := range []int64{16937501, 16937502, 17000000, 1 << 32, 1<<32 + 625000, 1 << 62, math.MaxInt64, math.MaxInt64 - 1} {
		isMilli(t, above, 110000, false)
	}
}

// P11.1: of any voltages, held against fractions of any size.
func TestMilliOfAny(t *testing.T) {
	for _, micro := range anyVolts(rand.New(rand.NewPCG(11, 1))) {
		milli, on := slowMilli(micro)
		isMilli(t, micro, milli, on)
	}
}

// P11.3: each entry tells its ten degrees, and where the voltage rises no heat falls.
func TestMilliRises(t *testing.T) {
	for i, point := range sensor.Table() {
		isMilli(t, point, int32(-40000+10000*i), true)
	}
	volts := anyVolts(rand.New(rand.NewPCG(11, 2)))
	slices.Sort(volts)
	last := int32(-40000)
	for _, micro := range volts {
		milli, on := sensor.Milli(micro)
		if milli < last || milli > 110000 {
			t.Errorf("Milli(%d): %d, behind %d", micro, milli, last)
		}
		if on != (micro >= 625000 && micro <= 16937500) {
			t.Errorf("Milli(%d): %v", micro, on)
		}
		last = milli
	}
}

// P11.3: from one point to the next each voltage of the first steps, one by one.
func TestMilliBySteps(t *testing.T) {
	for micro := int64(624900); micro < 2122600; micro += 7 {
		milli, on := slowMilli(micro)
		isMilli(t, micro, milli, on)
	}
}

// P11.1: the chapter's degrees, and those about a half: half a degree goes up, below 0 too.
func TestDegrees(t *testing.T) {
	for micro, degrees := range map[int64]int8{
		625000: -40, 1373750: -35, 2122500: -30, 3145000: -20, 5190000: 0, 15415000: 100, 16937500: 110,
		5241125: 1, 5241124: 0, 5138875: 0, 5138874: -1, 5189999: 0, 699875: -39, 699874: -40, 16861375: 110, 16861374: 109,
	} {
		isDegrees(t, micro, degrees, true)
	}
	for _, below := range []int64{624999, 0, -1, math.MinInt64} {
		isDegrees(t, below, -40, false)
	}
	for _, above := range []int64{16937501, 1 << 62, math.MaxInt64} {
		isDegrees(t, above, 110, false)
	}
}

// P11.1, P11.3: of any voltages, by the words of the chapter; they are from -40 to 110.
func TestDegreesOfAny(t *testing.T) {
	for _, micro := range anyVolts(rand.New(rand.NewPCG(11, 3))) {
		milli, on := slowMilli(micro)
		degrees := slowFloor(int64(milli)+500, 1000).Int64()
		isDegrees(t, micro, int8(degrees), on)
		if degrees < -40 || degrees > 110 {
			t.Errorf("Degrees(%d): %d", micro, degrees)
		}
	}
}

// P11.1: the chapter's kelvins, and those of what is not on the curve.
func TestKelvin(t *testing.T) {
	for micro, kelvin := range map[int64]float64{
		625000: 233.14999999999998, 5190000: 273.15, 16937500: 383.15, 1373750: 238.14999999999998,
		624999: 233.14999999999998, math.MinInt64: 233.14999999999998, 16937501: 383.15, math.MaxInt64: 383.15,
	} {
		isKelvin(t, micro, kelvin)
	}
}

// P11.1, R9: of any voltages, each operation rounded by itself.
func TestKelvinOfAny(t *testing.T) {
	for _, micro := range anyVolts(rand.New(rand.NewPCG(11, 4))) {
		milli, _ := slowMilli(micro)
		isKelvin(t, micro, slowKelvin(milli))
	}
}

// isMilli asks for the heat that a voltage tells, isDegrees for it in degrees, isKelvin for it above the absolute nought.
func isMilli(t *testing.T, micro int64, milli int32, on bool) {
	t.Helper()
	if n, got := sensor.Milli(micro); n != milli || got != on {
		t.Errorf("Milli(%d): %d %v, want %d %v", micro, n, got, milli, on)
	}
}

func isDegrees(t *testing.T, micro int64, degrees int8, on bool) {
	t.Helper()
	if n, got := sensor.Degrees(micro); n != degrees || got != on {
		t.Errorf("Degrees(%d): %d %v, want %d %v", micro, n, got, degrees, on)
	}
}

func isKelvin(t *testing.T, micro int64, kelvin float64) {
	t.Helper()
	if x := sensor.Kelvin(micro); x != kelvin {
		t.Errorf("Kelvin(%d): %v, want %v", micro, x, kelvin)
	}
}
