package sensor_test

import (
	"math"
	"math/big"
	"math/rand/v2"

	"reveille/api"
	"reveille/card"
	"reveille/sensor"
	"reveille/supply"
)

// ruled is the family's array as the chapter says that it is reckoned, from supply's as it stands.
func ruled() [sensor.Points]int64 {
	rails := supply.Table()
	var all [sensor.Points]int64
	for i := range all {
		all[i] = card.Entry(i, -200000, 10000, []card.Read{{Factor: 1, Of: rails[:]}})
	}
	all[0] += 25000
	all[15] += 500000
	return all
}

// chapterCards are the cards of the chapter's table.
func chapterCards() []api.Card {
	row := func(name string, level uint8, score int8, quirk string, entry int16, compat ...string) api.Card {
		return api.Card{Name: name, Family: "sensor", Level: level, Compat: compat, Score: score, Quirk: quirk, Entry: entry}
	}
	return []api.Card{
		row("thermistor", 3, 0, "", 0, "acme,ntc"),
		row("adc", 2, 5, "half", 3, "acme,adc-16", "acme,adc"),
		row("diode", 3, -10, "slow", 15, "acme,diode", "acme,ntc"),
		row("fuel-gauge", 4, 0, "double", 7, "acme,gauge"),
		row("adc", 3, 90, "", -1, "acme,adc"),
	}
}

// oddPlaces are places that the array has not.
func oddPlaces() []int {
	return []int{-1, -2, -16, 16, 17, 20, 24, 32, 1 << 32, -1 << 32, 1<<32 + 1, math.MaxInt, math.MinInt}
}

// anyVolts are voltages about each point and each middle of two, at the ends of what there is, and anywhere else.
func anyVolts(r *rand.Rand) []int64 {
	all := []int64{0, 1, -1, math.MinInt64, math.MinInt64 + 1, math.MaxInt64, math.MaxInt64 - 1, 1 << 62, -1 << 62}
	u := ruled()
	for i, point := range u {
		for by := int64(-3); by <= 3; by++ {
			all = append(all, point+by, (point+u[(i+1)%len(u)])/2+by)
		}
	}
	for range 20000 {
		all = append(all, r.Int64N(18000000), int64(r.Uint64())>>r.IntN(64))
	}
	return all
}

// slowMilli is Milli by the words of the chapter, in numbers of any size; the point is sought by its entry, not by its place.
func slowMilli(micro int64) (int32, bool) {
	u := ruled()
	if micro < u[0] {
		return -40000, false
	}
	if micro > u[15] {
		return 110000, false
	}
	i := 0
	for k, point := range u {
		if point <= micro {
			i = max(i, k)
		}
	}
	if i == 15 {
		return 110000, true
	}
	part := big.NewRat(micro-u[i], u[i+1]-u[i])
	part.Mul(part, big.NewRat(10000, 1))
	beyond := new(big.Int).Div(part.Num(), part.Denom())
	return int32(-40000 + 10000*i + int(beyond.Int64())), true
}

// slowFloor is the greatest whole number not above n divided by another one above 0.
func slowFloor(n, by int64) *big.Int {
	return new(big.Int).Div(big.NewInt(n), big.NewInt(by))
}

// slowKelvin is Kelvin in floats of 53 bits, of which each operation is rounded by itself.
func slowKelvin(milli int32) float64 {
	of := func(x float64) *big.Float { return new(big.Float).SetPrec(53).SetFloat64(x) }
	degrees := new(big.Float).SetPrec(53).Quo(of(float64(milli)), of(1000))
	kelvin, _ := new(big.Float).SetPrec(53).Add(degrees, of(273.15)).Float64()
	return kelvin
}

// slowRaw is Raw by going round, and by going to the end.
func slowRaw(micro int64) (int16, int16) {
	n := slowFloor(micro, 1000)
	round := new(big.Int).Mod(new(big.Int).Add(n, big.NewInt(32768)), big.NewInt(65536))
	nearest := int64(32767)
	if n.Sign() < 0 {
		nearest = -32768
	}
	if n.Cmp(big.NewInt(-32768)) >= 0 && n.Cmp(big.NewInt(32767)) <= 0 {
		nearest = n.Int64()
	}
	return int16(round.Int64() - 32768), int16(nearest)
}

// slowZone is Zone by counting.
func slowZone(marks []int8, degrees int8) int {
	n := 0
	for _, mark := range marks {
		if int(mark) <= int(degrees) {
			n++
		}
	}
	return n
}

// slowMedian is Median by counting how many readings stand ahead of each one, of like ones those with a lesser place.
func slowMedian(l []int8) int8 {
	for i, x := range l {
		ahead := 0
		for k, y := range l {
			if y < x || y == x && k < i {
				ahead++
			}
		}
		if ahead == (len(l)+1)/2-1 {
			return x
		}
	}
	return 0
}

// rising are marks from a set of bits: bit k of it is the mark first + k*by.
func rising(set uint64, first, by int) []int8 {
	marks := []int8{}
	for k := range 64 {
		if set>>k&1 == 1 {
			marks = append(marks, int8(first+k*by))
		}
	}
	return marks
}

// anyReadings are n of them, from ones that are much alike to ones that are not.
func anyReadings(r *rand.Rand, n int) []int8 {
	l := []int8{}
	spread := 1 + r.IntN(256)
	for range n {
		l = append(l, int8(r.IntN(spread)-spread/2))
	}
	return l
}
