package radio_test

import (
	"math"
	"math/rand/v2"
	"slices"
	"testing"

	"reveille/radio"
)

// P12.3: the chapter's products, and those of noughts, whose signs are told as the parts come to them.
func TestMix(t *testing.T) {
	for _, x := range []struct {
		l       []complex128
		product complex128
	}{
		{nil, 1}, {[]complex128{}, 1}, {[]complex128{2i}, 2i}, {[]complex128{1 + 2i, 3 - 1i}, 5 + 5i}, {[]complex128{3 - 1i, 1 + 2i}, 5 + 5i},
		{[]complex128{1i, 1i}, -1}, {[]complex128{1i, 1i, 1i}, complex(negative(), -1)}, {[]complex128{1i, 1i, 1i, 1i}, complex(1, negative())},
		{[]complex128{0}, 0}, {[]complex128{complex(negative(), 0)}, complex(negative(), 0)}, {[]complex128{complex(0, negative())}, 0},
		{[]complex128{complex(negative(), negative())}, complex(0, negative())}, {[]complex128{-2}, complex(-2, 0)}, {[]complex128{-2i}, complex(0, -2)},
		{[]complex128{1 + 1i, 1 - 1i}, 2}, {[]complex128{2, 3, 5i}, 30i}, {[]complex128{1 + 2i, 3 - 1i, 0.5}, 2.5 + 2.5i},
	} {
		isMix(t, x.l, x.product)
	}
}

// P12.3: each product is rounded ahead of the sum: rounded at once, the parts would not come to 0.
func TestMixIsRounded(t *testing.T) {
	isMix(t, []complex128{complex(0.1, 0.1), complex(0.1, 0.1)}, complex(0, 0.020000000000000004))
	isMix(t, []complex128{complex(1.0/3, -1.0/3), complex(1.0/3, 1.0/3)}, complex(2.0/9, 0))
	isMix(t, []complex128{complex(1+0x1p-52, 1), complex(1+0x1p-52, 1+0x1p-51)}, complex(0, 2+0x1p-50))
}

// P12.3: what is no number, and what is without an end, comes out by parts: no product is put right.
func TestMixOfOdd(t *testing.T) {
	inf, nan := math.Inf(1), math.NaN()
	isMix(t, []complex128{complex(inf, 1)}, complex(inf, nan))
	isMix(t, []complex128{complex(1, inf)}, complex(nan, inf))
	isMix(t, []complex128{complex(inf, -inf)}, complex(nan, nan))
	isMix(t, []complex128{complex(nan, 1)}, complex(nan, nan))
	isMix(t, []complex128{complex(1, nan)}, complex(nan, nan))
	isMix(t, []complex128{complex(1e200, 1), complex(1e200, 1)}, complex(inf, 2e200))
	isMix(t, []complex128{complex(1e200, 1e200), complex(1e200, 1e200)}, complex(nan, inf))
	isMix(t, []complex128{complex(nan, nan), 0}, complex(nan, nan))
}

// P12.3: of any signals, one by one from the first on, held against the slow ones.
func TestMixOfAny(t *testing.T) {
	r := rand.New(rand.NewPCG(12, 5))
	for range 5000 {
		l := []complex128{anySignal(r)}
		product := l[0]
		for range r.IntN(8) {
			z := anySignal(r)
			if by := slowTimes(product, z); real(by) != 0 && imag(by) != 0 {
				l, product = append(l, z), by
			}
		}
		isMix(t, l, product)
	}
}

// P12.3: the chapter's power, the noughts, and what is no number.
func TestPower(t *testing.T) {
	inf, nan := math.Inf(1), math.NaN()
	for _, x := range []struct {
		z     complex128
		power float64
	}{
		{3 - 4i, 25}, {-3 + 4i, 25}, {0, 0}, {complex(negative(), negative()), 0}, {1i, 1}, {-2, 4}, {complex(0.1, 0), 0.010000000000000002},
		{complex(1e200, 0), inf}, {complex(0, -1e200), inf}, {complex(-inf, 1), inf}, {complex(1, inf), inf}, {complex(nan, 1), nan}, {complex(inf, nan), nan},
		{complex(math.SmallestNonzeroFloat64, math.SmallestNonzeroFloat64), 0},
		{complex(1+0x1p-27, 0x1p-27), 1 + 0x1p-26}, {complex(1, 1+0x1p-30), 2 + 0x1p-29},
	} {
		isPower(t, x.z, x.power)
	}
}

// P12.3: of any signals: each square is rounded ahead of the sum.
func TestPowerOfAny(t *testing.T) {
	r := rand.New(rand.NewPCG(12, 6))
	for range 20000 {
		z := anySignal(r)
		isPower(t, z, slowPower(z))
	}
}

// turns are numbers of quarters, at the ends of what there is too.
func turns() []int {
	all := []int{math.MaxInt, math.MaxInt - 1, math.MaxInt - 2, math.MaxInt - 3, math.MinInt, math.MinInt + 1, math.MinInt + 2, math.MinInt + 3, 1 << 32, 1<<32 + 1, -1<<32 - 1}
	for n := -13; n <= 13; n++ {
		all = append(all, n)
	}
	return all
}

// P12.3: the chapter's turns.
func TestTurned(t *testing.T) {
	for quarters, want := range map[int]complex128{
		0: 1 + 2i, 1: -2 + 1i, -1: 2 - 1i, 6: -1 - 2i, 2: -1 - 2i, 3: 2 - 1i, 4: 1 + 2i, 5: -2 + 1i, -2: -1 - 2i, -3: -2 + 1i, -4: 1 + 2i, -5: 2 - 1i,
		math.MaxInt: 2 - 1i, math.MinInt: 1 + 2i, math.MinInt + 1: -2 + 1i,
	} {
		isTurned(t, 1+2i, quarters, want)
	}
	isTurned(t, 1, 1, complex(negative(), 1))
	isTurned(t, 0, 1, complex(negative(), 0))
	isTurned(t, 0, 2, complex(negative(), negative()))
	isTurned(t, 0, 3, complex(0, negative()))
}

// P12.3, P12.6: of signals of all kinds: the parts are moved, and their signs turned, of the noughts too; so a turned one has the power that it had.
func TestTurnedOfAny(t *testing.T) {
	r := rand.New(rand.NewPCG(12, 7))
	signals := oddSignals()
	for range 500 {
		signals = append(signals, anySignal(r))
	}
	for _, z := range signals {
		for _, quarters := range turns() {
			isTurned(t, z, quarters, slowTurned(z, quarters))
			if power := radio.Power(z); !math.IsNaN(power) {
				isPower(t, radio.Turned(z, quarters), power)
			}
		}
	}
}

// P12.6: four quarters are none, in one go or in four; and one to the left and one to the right are none.
func TestTurnedBack(t *testing.T) {
	for _, z := range oddSignals() {
		isTurned(t, z, 4, z)
		isTurned(t, z, -4, z)
		isTurned(t, radio.Turned(z, 1), -1, z)
		for _, by := range []int{1, -1, 3, -3} {
			once := radio.Turned(z, by)
			isTurned(t, radio.Turned(radio.Turned(once, by), by), by, z)
		}
	}
}

// P12.6: the mix of one signal and turned signals of 1 is that signal turned, where its parts are finite and not 0.
func TestMixOfTurned(t *testing.T) {
	r := rand.New(rand.NewPCG(12, 8))
	signals := []complex128{3 - 4i, -1 - 1i, complex(math.MaxFloat64, math.SmallestNonzeroFloat64), complex(-math.SmallestNonzeroFloat64, -math.MaxFloat64)}
	for range 2000 {
		signals = append(signals, anySignal(r))
	}
	for _, z := range signals {
		l, quarters := []complex128{z}, 0
		for range r.IntN(6) {
			by := r.IntN(21) - 10
			l, quarters = append(l, radio.Turned(1, by)), quarters+by
		}
		isMix(t, l, radio.Turned(z, quarters))
	}
}

// P12.4: the chapter's readings, and the ends.
func TestStrong(t *testing.T) {
	for _, x := range []struct {
		l        []int8
		strong   int8
		strongAt int
	}{
		{[]int8{-70, -30, -30}, -30, 1}, {nil, -128, -1}, {[]int8{}, -128, -1}, {[]int8{-128}, -128, 0}, {[]int8{-128, -128}, -128, 0},
		{[]int8{-128, -127}, -127, 1}, {[]int8{127}, 127, 0}, {[]int8{0, 127, 127}, 127, 1}, {[]int8{5, 4, 3}, 5, 0}, {[]int8{3, 4, 5}, 5, 2},
		{[]int8{-1, 0}, 0, 1}, {[]int8{0, -1}, 0, 0}, {[]int8{0, 0, 0}, 0, 0}, {[]int8{-5, 5, -6}, 5, 1},
	} {
		isStrong(t, x.l, x.strong, x.strongAt)
	}
}

// P12.4: of all lists of up to six of four readings, and of any others.
func TestStrongOfAny(t *testing.T) {
	readings := [4]int8{-128, -1, 0, 127}
	for n := range 7 {
		for number := range 1 << (2 * n) {
			l := []int8{}
			for k := range n {
				l = append(l, readings[number>>(2*k)&3])
			}
			strong, at := slowStrong(l)
			isStrong(t, l, strong, at)
		}
	}
	r := rand.New(rand.NewPCG(12, 9))
	for range 500 {
		l := []int8{}
		for range r.IntN(300) {
			l = append(l, int8(r.IntN(256)-128))
		}
		strong, at := slowStrong(l)
		isStrong(t, l, strong, at)
	}
	isStrong(t, append(slices.Repeat([]int8{-128}, 1<<16), -127), -127, 1<<16)
}

// isMix asks for a product of signals, isPower for a signal's power, isTurned for a turned one, isStrong for the strongest reading.
func isMix(t *testing.T, l []complex128, product complex128) {
	t.Helper()
	if z := radio.Mix(l); !sameSignal(z, product) {
		t.Errorf("Mix(%v): %v, want %v", l, z, product)
	}
}

func isPower(t *testing.T, z complex128, power float64) {
	t.Helper()
	if x := radio.Power(z); !sameFloat(x, power) {
		t.Errorf("Power(%v): %v, want %v", z, x, power)
	}
}

func isTurned(t *testing.T, z complex128, quarters int, want complex128) {
	t.Helper()
	if got := radio.Turned(z, quarters); !sameSignal(got, want) {
		t.Errorf("Turned(%v, %d): %v, want %v", z, quarters, got, want)
	}
}

func isStrong(t *testing.T, l []int8, strong int8, at int) {
	t.Helper()
	if x, i := radio.Strong(l); x != strong || i != at {
		t.Errorf("Strong(%v): %d %d, want %d %d", l, x, i, strong, at)
	}
}
