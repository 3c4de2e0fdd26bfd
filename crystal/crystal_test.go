package crystal_test

import (
	"math"
	"math/big"
	"math/rand/v2"
	"reflect"
	"testing"

	"reveille/api"
	"reveille/card"
	"reveille/crystal"
)

// P8.1: the five cards, in order; each of them may be, and has an entry of the array.
func TestCards(t *testing.T) {
	l := crystal.Cards()
	if !reflect.DeepEqual(l, chapterCards()) {
		t.Errorf("Cards: %v, want %v", l, chapterCards())
	}
	for _, c := range l {
		if at, e := card.Check([]api.Card{c}); e != api.OK {
			t.Errorf("%s may not be: %d %d", c.Name, at, e)
		}
		if _, e := crystal.Rate(int(c.Entry)); e != api.OK {
			t.Errorf("%s has no entry: %d", c.Name, e)
		}
	}
}

// P8.1: pll stands twice: a registry keeps the first.
func TestCardsEntered(t *testing.T) {
	r, l := card.New(), crystal.Cards()
	for i, c := range l {
		want := api.OK
		if i == 4 {
			want = api.ErrTaken
		}
		if e := r.Enter(c); e != want {
			t.Errorf("%s: %d, want %d", c.Name, e, want)
		}
	}
	if !reflect.DeepEqual(r.Cards(), l[:4]) || !reflect.DeepEqual(r.Refused(), l[4:]) {
		t.Errorf("%v %v", r.Cards(), r.Refused())
	}
}

// P8.1: the array, and each entry of it; R4: a place that it has not.
func TestTable(t *testing.T) {
	if crystal.Rates != 32 {
		t.Error("Rates:", crystal.Rates)
	}
	u := crystal.Table()
	if u != ruled() {
		t.Errorf("Table: %v, want %v", u, ruled())
	}
	for i, want := range u {
		if n, e := crystal.Rate(i); n != want || e != api.OK {
			t.Errorf("Rate(%d): %d %d, want %d", i, n, e, want)
		}
	}
	for i, want := range map[int]int64{0: 32768, 1: 2000000, 2: 3000000, 8: 9000000, 24: 25000000, 30: 31000000, 31: 100000000} {
		if n, e := crystal.Rate(i); n != want || e != api.OK {
			t.Errorf("Rate(%d): %d %d, want %d", i, n, e, want)
		}
	}
	for _, i := range oddPlaces() {
		if n, e := crystal.Rate(i); n != 0 || e != api.ErrArg {
			t.Errorf("Rate(%d): %d %d", i, n, e)
		}
	}
}

// P8.1: the periods, held against fractions that are rounded once; R4: the nought has no sign.
func TestPeriod(t *testing.T) {
	for i, want := range map[int]float64{0: 30517.578125, 1: 500, 3: 250, 4: 200, 31: 10} {
		if p, e := crystal.Period(i); p != want || e != api.OK {
			t.Errorf("Period(%d): %v %d, want %v", i, p, e, want)
		}
	}
	for i, n := range ruled() {
		want, _ := big.NewRat(1000000000, n).Float64()
		if p, e := crystal.Period(i); p != want || e != api.OK {
			t.Errorf("Period(%d): %v %d, want %v", i, p, e, want)
		}
	}
	for _, i := range oddPlaces() {
		if p, e := crystal.Period(i); math.Float64bits(p) != 0 || e != api.ErrArg {
			t.Errorf("Period(%d): %v %d", i, p, e)
		}
	}
}

// slowNear is Near by the words of the chapter, in numbers of any size.
func slowNear(want int64) int {
	nearest, least := 0, new(big.Int)
	for i, n := range ruled() {
		apart := new(big.Int).Sub(big.NewInt(n), big.NewInt(want))
		if apart.Abs(apart); i == 0 || apart.Cmp(least) < 0 {
			nearest, least = i, apart
		}
	}
	return nearest
}

// P8.1: the chapter's, the ends, and wrong numbers.
func TestNear(t *testing.T) {
	for want, place := range map[int64]int{
		0: 0, 1: 0, 32768: 0, 2500000: 1, 2500001: 2, 2499999: 1, 3500000: 2, 65500000: 30, 65500001: 31, 65999999: 31,
		1016384: 0, 1016385: 1, 30500000: 29, 30500001: 30, 100000000: 31, 1000000000: 31, math.MaxInt64: 31, math.MaxInt64 - 1: 31,
	} {
		isNear(t, want, place, api.OK)
	}
	for _, want := range []int64{-1, -2, -32768, -2000000, math.MinInt64, math.MinInt64 + 1} {
		isNear(t, want, 0, api.ErrArg)
	}
}

// P8.1: about each entry, each middle between two, and anywhere else.
func TestNearOfAny(t *testing.T) {
	u := ruled()
	for i := range u {
		for j := range u {
			middle := (u[i] + u[j]) / 2
			for want := middle - 2; want <= middle+2; want++ {
				isNear(t, want, slowNear(want), api.OK)
			}
		}
	}
	r := rand.New(rand.NewPCG(8, 1))
	for range 20000 {
		want := r.Int64N(int64(1)<<r.IntN(63)) + r.Int64N(2)
		isNear(t, want, slowNear(want), api.OK)
		isNear(t, -1-want, 0, api.ErrArg)
	}
}
