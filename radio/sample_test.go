package radio_test

import (
	"math"
	"math/big"
	"math/rand/v2"

	"reveille/api"
	"reveille/bus"
	"reveille/card"
	"reveille/radio"
	"reveille/sensor"
)

// ruled is the family's array as the chapter says that it is reckoned, from bus's and sensor's as they stand.
func ruled() [radio.Bands]int64 {
	lines, points := bus.Table(), sensor.Table()
	var all [radio.Bands]int64
	for i := range all {
		all[i] = card.Entry(i, 160000000, 25000, []card.Read{{Factor: 1, Of: lines[:]}, {Factor: 2, Of: points[:]}})
	}
	all[0] -= 2320
	all[19] -= 30640
	return all
}

// chapterCards are the cards of the chapter's table.
func chapterCards() []api.Card {
	row := func(name string, level uint8, score int8, quirk string, entry int16, compat ...string) api.Card {
		return api.Card{Name: name, Family: "radio", Level: level, Compat: compat, Score: score, Quirk: quirk, Entry: entry}
	}
	return []api.Card{
		row("lora", 3, 5, "", 0, "acme,lora-b", "acme,lora"),
		row("antenna", 2, 0, "", -1, "acme,antenna"),
		row("hub", 3, 100, "", -1, "acme,hub"),
		row("wifi", 3, 0, "slow", 12, "acme,wifi"),
		row("modem", 4, 20, "double", 19, "acme,modem", "acme,lora"),
		row("wifi", 1, 70, "", 13, "acme,wifi"),
	}
}

// oddPlaces are places that the array has not.
func oddPlaces() []int {
	return []int{-1, -2, -16, -20, 20, 21, 24, 32, 1 << 32, -1 << 32, 1<<32 + 1, math.MaxInt, math.MinInt}
}

// negative is the nought that has a sign.
func negative() float64 { return math.Copysign(0, -1) }

// oddSpeeds are as fast as light, or faster, or no numbers.
func oddSpeeds() []float64 {
	return []float64{
		299792458, -299792458, math.Nextafter(299792458, math.Inf(1)), math.Nextafter(-299792458, math.Inf(-1)), 299792459, -3e8, 1e300, -1e300,
		math.MaxFloat64, -math.MaxFloat64, math.Inf(1), math.Inf(-1), math.NaN(), math.Copysign(math.NaN(), -1),
	}
}

// evenSpeeds are slower than light, from the least ones on to the greatest.
func evenSpeeds() []float64 {
	return []float64{
		math.SmallestNonzeroFloat64, -math.SmallestNonzeroFloat64, 1e-310, 1e-300, -1e-300, 0.1, -0.1, 1, 3, -7, 340.29, 1000, -7800.5,
		149896229, -149896229, 1e8, 299792457, math.Nextafter(299792458, 0), math.Nextafter(-299792458, 0),
	}
}

// slowShift is Shift in fractions that are rounded as often as floats would be: the quotient, and the product. They know no
// nought with a sign, so that it is given them.
func slowShift(i int, speed float64) float64 {
	part, _ := new(big.Rat).Quo(new(big.Rat).SetFloat64(speed), new(big.Rat).SetInt64(299792458)).Float64()
	moved, _ := new(big.Rat).Mul(new(big.Rat).SetInt64(ruled()[i]), new(big.Rat).SetFloat64(part)).Float64()
	return math.Copysign(moved, speed)
}

// slowNear is Near by the words of the chapter, in numbers of any size: the least distance first, then the first place that has it.
func slowNear(hertz int64) int {
	var distances []*big.Int
	for _, middle := range ruled() {
		apart := new(big.Int).Sub(big.NewInt(hertz), big.NewInt(middle))
		distances = append(distances, apart.Abs(apart))
	}
	least := distances[0]
	for _, distance := range distances {
		if distance.Cmp(least) < 0 {
			least = distance
		}
	}
	for i, distance := range distances {
		if distance.Cmp(least) == 0 {
			return i
		}
	}
	return -1
}

// next is the number behind x, reckoned in numbers of any size.
func next(x uint64) uint64 {
	size := new(big.Int).Lsh(big.NewInt(1), 64)
	n := new(big.Int).SetUint64(x)
	over := new(big.Int).Mul(n, big.NewInt(8192))
	n.Xor(n, over.Mod(over, size))
	n.Xor(n, new(big.Int).Quo(n, big.NewInt(128)))
	over = new(big.Int).Mul(n, big.NewInt(131072))
	n.Xor(n, over.Mod(over, size))
	return n.Uint64()
}

// slowHops are Hops by the words of the chapter, round by round; and at how many of the rounds the first two places changed their bands.
func slowHops(seed uint64, n int) ([]int, int) {
	x := seed
	if seed == 0 {
		x = 11400714819323198485
	}
	row := []int{0, 1, 2, 3, 4, 5, 6, 7, 8, 9, 10, 11, 12, 13, 14, 15, 16, 17, 18, 19}
	hops, last, changed := []int{}, -1, 0
	for ; len(hops) < n; hops = append(hops, row...) {
		for _, k := range []int{19, 18, 17, 16, 15, 14, 13, 12, 11, 10, 9, 8, 7, 6, 5, 4, 3, 2, 1} {
			x = next(x)
			at := int(new(big.Int).Mod(new(big.Int).SetUint64(x), big.NewInt(int64(k+1))).Int64())
			there := row[at]
			row[at] = row[k]
			row[k] = there
		}
		if row[0] == last {
			row[0], row[1] = row[1], row[0]
			changed++
		}
		last = row[19]
	}
	return hops[:n], changed
}

// slowTimes is a product of signals in floats of 53 bits, of which each operation is rounded by itself; no part may be 0, or come to it.
func slowTimes(p, q complex128) complex128 {
	of := func(x float64) *big.Float { return new(big.Float).SetPrec(53).SetFloat64(x) }
	product := func(x, y float64) *big.Float { return new(big.Float).SetPrec(53).Mul(of(x), of(y)) }
	u, _ := new(big.Float).SetPrec(53).Sub(product(real(p), real(q)), product(imag(p), imag(q))).Float64()
	v, _ := new(big.Float).SetPrec(53).Add(product(real(p), imag(q)), product(imag(p), real(q))).Float64()
	return complex(u, v)
}

// slowPower is a signal's, likewise.
func slowPower(z complex128) float64 {
	square := func(x float64) *big.Float {
		f := new(big.Float).SetPrec(53).SetFloat64(x)
		return f.Mul(f, f)
	}
	sum, _ := new(big.Float).SetPrec(53).Add(square(real(z)), square(imag(z))).Float64()
	return sum
}

// slowTurned are the four that a signal may come to, by how many quarters it is turned to the left.
func slowTurned(z complex128, quarters int) complex128 {
	a, b := real(z), imag(z)
	four := [4]complex128{complex(a, b), complex(-b, a), complex(-a, -b), complex(b, -a)}
	left := quarters % 4
	if left < 0 {
		left += 4
	}
	return four[left]
}

// slowStrong is Strong by asking each reading whether it is below none, from the last one to the first.
func slowStrong(l []int8) (int8, int) {
	for at := len(l) - 1; at >= 0; at-- {
		first := true
		for i, reading := range l {
			first = first && reading <= l[at] && (reading != l[at] || i >= at)
		}
		if first {
			return l[at], at
		}
	}
	return -128, -1
}

// sameFloat asks whether two floats are told alike: the noughts are told apart, what is no number is not.
func sameFloat(x, y float64) bool {
	return math.Float64bits(x) == math.Float64bits(y) || math.IsNaN(x) && math.IsNaN(y)
}

// sameSignal asks it of the parts of two signals.
func sameSignal(p, q complex128) bool {
	return sameFloat(real(p), real(q)) && sameFloat(imag(p), imag(q))
}

// anyFloat is a finite one that is not 0, from ones that are written in few digits to ones that fill a float.
func anyFloat(r *rand.Rand) float64 {
	if r.IntN(4) == 0 {
		return float64(1+r.IntN(9)) / float64(2*r.IntN(2)-1)
	}
	return math.Ldexp(r.Float64()-0.5, r.IntN(41)-20) + 0x1p-40
}

// anySignal is one of two such parts.
func anySignal(r *rand.Rand) complex128 { return complex(anyFloat(r), anyFloat(r)) }

// oddParts are those of which signals are not as others: noughts, the greatest and the least, and what is no number.
func oddParts() []float64 {
	return []float64{0, negative(), 1, -1, math.SmallestNonzeroFloat64, -math.SmallestNonzeroFloat64, 1e200, -1e200, math.MaxFloat64, math.Inf(1), math.Inf(-1), math.NaN()}
}

// oddSignals are all signals of such parts.
func oddSignals() []complex128 {
	var all []complex128
	for _, a := range oddParts() {
		for _, b := range oddParts() {
			all = append(all, complex(a, b))
		}
	}
	return all
}
