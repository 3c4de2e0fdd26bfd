package crystal_test

import (
	"math"
	"math/rand/v2"
	"testing"

	"reveille/api"
	"reveille/crystal"
)

// P8.2: the chapter's dividers, and the ends.
func TestDivider(t *testing.T) {
	for _, x := range []struct {
		from, want, by int64
		e              api.Errno
	}{
		{100, 30, 4, api.OK},
		{90, 30, 3, api.OK},
		{91, 30, 4, api.OK},
		{89, 30, 3, api.OK},
		{1, 5, 1, api.OK},
		{1, 1, 1, api.OK},
		{5, 5, 1, api.OK},
		{6, 5, 2, api.OK},
		{65534, 1, 65534, api.OK},
		{65535, 1, 65535, api.OK},
		{65536, 1, 0, api.ErrNone},
		{131070, 2, 65535, api.OK},
		{131071, 2, 0, api.ErrNone},
		{limit, limit, 1, api.OK},
		{limit, limit - 1, 2, api.OK},
		{limit - 1, limit, 1, api.OK},
		{1, limit, 1, api.OK},
		{limit, 1, 0, api.ErrNone},
		{limit, 16777472, 0, api.ErrNone},
		{limit, 16777473, 65535, api.OK},
		{limit, 16777728, 65535, api.OK},
		{limit, 16777729, 65534, api.OK},
	} {
		isDivided(t, x.from, x.want, x.by, x.e)
	}
}

// P8.2: numbers out of their range, the one, the other and both.
func TestDividerOfOdd(t *testing.T) {
	for _, odd := range oddRates() {
		for _, n := range []int64{1, 5, 65536, limit} {
			isDivided(t, odd, n, 0, api.ErrArg)
			isDivided(t, n, odd, 0, api.ErrArg)
		}
		for _, other := range oddRates() {
			isDivided(t, odd, other, 0, api.ErrArg)
		}
	}
}

// P8.2: of small numbers the least one is found by trying.
func TestDividerOfSmall(t *testing.T) {
	for from := int64(1); from <= 200; from++ {
		for want := int64(1); want <= 200; want++ {
			d := int64(1)
			for want*d < from {
				d++
			}
			isDivided(t, from, want, d, api.OK)
		}
	}
}

// P8.2, P8.3: of any numbers: what it is divided by is enough, and nothing less is.
func TestDividerOfAny(t *testing.T) {
	r := rand.New(rand.NewPCG(8, 2))
	for range 50000 {
		from, want := anyRate(r), anyRate(r)
		switch r.IntN(3) {
		case 0: // about the greatest divider
			want = max(from/65535+r.Int64N(3)-1, 1)
		case 1: // about a multiple
			from = max(min(want*(1+r.Int64N(65536))+r.Int64N(3)-1, limit), 1)
		}
		if want*65535 < from {
			isDivided(t, from, want, 0, api.ErrNone)
			continue
		}
		d, e := crystal.Divider(from, want)
		if e != api.OK || d < 1 || d > 65535 || want*d < from || want*(d-1) >= from {
			t.Errorf("Divider(%d, %d): %d %d", from, want, d, e)
		}
		isEnough(t, from, want, d)
	}
}

// isEnough asks the chain of one divider what is left: no more than what is wanted; of a lesser one more, or as much with something left over.
func isEnough(t *testing.T, from, want, d int64) {
	t.Helper()
	left, e := crystal.Chain(from, []int64{d})
	if e != api.OK || left > want {
		t.Errorf("Chain(%d, %d): %d %d, wanted %d", from, d, left, e, want)
	}
	if d == 1 {
		return
	}
	left, e = crystal.Chain(from, []int64{d - 1})
	if e != api.OK || left < want || left == want && from%(d-1) == 0 {
		t.Errorf("Chain(%d, %d): %d %d, wanted %d", from, d-1, left, e, want)
	}
}

// P8.2: the chapter's chains, and the ends.
func TestChain(t *testing.T) {
	for _, x := range []struct {
		from int64
		by   []int64
		left int64
	}{
		{100, []int64{4, 3}, 8},
		{100, []int64{3, 4}, 8},
		{100, nil, 100},
		{100, []int64{}, 100},
		{99, []int64{2, 2}, 24},
		{7, []int64{8}, 0},
		{7, []int64{7}, 1},
		{0, nil, 0},
		{0, []int64{1, 65535}, 0},
		{limit, nil, limit},
		{limit, []int64{1}, limit},
		{limit, []int64{65535}, 16777472},
		{limit, []int64{65535, 65535}, 256},
		{limit, repeated(1, 64), limit},
		{limit, repeated(2, 40), 1},
		{limit, repeated(2, 64), 0},
		{limit, repeated(65535, 64), 0},
	} {
		isChained(t, x.from, x.by, x.left, api.OK)
	}
}

// P8.2: a rate out of its range, too many dividers, and a wrong one anywhere, also where nothing is left to be divided.
func TestChainOfOdd(t *testing.T) {
	for _, from := range oddRates() {
		if from != 0 {
			isChained(t, from, nil, 0, api.ErrArg)
			isChained(t, from, []int64{2}, 0, api.ErrArg)
		}
	}
	for _, from := range []int64{0, 1, 100, limit} {
		isChained(t, from, repeated(1, 65), 0, api.ErrArg)
		isChained(t, from, repeated(65535, 1000), 0, api.ErrArg)
		for _, odd := range oddDividers() {
			isChained(t, from, []int64{odd}, 0, api.ErrArg)
			for at := range 64 {
				by := repeated(3, 64)
				by[at] = odd
				isChained(t, from, by, 0, api.ErrArg)
			}
		}
	}
}

// P8.2, P8.3: what is left hangs on the product alone: it is that of one division, in any order and grouping.
func TestChainHangsOnProduct(t *testing.T) {
	r := rand.New(rand.NewPCG(8, 3))
	for range 20000 {
		from, by := anyRate(r)-r.Int64N(2), anyDividers(r, r.IntN(8))
		want := quotient(from, by)
		isChained(t, from, by, want, api.OK)
		r.Shuffle(len(by), func(i, j int) { by[i], by[j] = by[j], by[i] })
		isChained(t, from, by, want, api.OK)
		isChained(t, from, append(by, 1, 1), want, api.OK)
		if len(by) > 1 && by[0]*by[1] <= 65535 {
			isChained(t, from, append([]int64{by[0] * by[1]}, by[2:]...), want, api.OK)
		}
	}
}

// R1: each call ends, whatever it is handed.
func TestAnythingEnds(t *testing.T) {
	all := append(append(oddRates(), oddDividers()...), 1, 2, 31, 32, 65535, limit, math.MaxInt64-1)
	for _, a := range all {
		crystal.Rate(int(a))
		crystal.Period(int(a))
		crystal.Near(a)
		for _, b := range all {
			crystal.Divider(a, b)
			crystal.Chain(a, []int64{b, a})
		}
		crystal.Chain(a, make([]int64, 1<<16))
	}
}
