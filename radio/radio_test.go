package radio_test

import (
	"math"
	"math/rand/v2"
	"reflect"
	"testing"

	"reveille/api"
	"reveille/bus"
	"reveille/card"
	"reveille/radio"
)

// P12.1: the six cards, in order; each of them may be, and has an entry of the array or none.
func TestCards(t *testing.T) {
	l := radio.Cards()
	if !reflect.DeepEqual(l, chapterCards()) {
		t.Errorf("Cards: %v, want %v", l, chapterCards())
	}
	for _, c := range l {
		if at, e := card.Check([]api.Card{c}); e != api.OK {
			t.Errorf("%s may not be: %d %d", c.Name, at, e)
		}
		if _, e := radio.Hertz(int(c.Entry)); e != api.OK && c.Entry != -1 {
			t.Errorf("%s has no entry: %d", c.Name, e)
		}
	}
}

// P12.1: behind bus's cards a registry refuses hub, and the second wifi.
func TestCardsEntered(t *testing.T) {
	if at, e := card.Check(radio.Cards()); at != 5 || e != api.ErrCard {
		t.Errorf("the list: %d %d", at, e)
	}
	r, l, ahead := card.New(), radio.Cards(), bus.Cards()
	for _, c := range ahead {
		r.Enter(c)
	}
	for i, c := range l {
		want := api.OK
		if i == 2 || i == 5 {
			want = api.ErrTaken
		}
		if e := r.Enter(c); e != want {
			t.Errorf("%d %s: %d, want %d", i, c.Name, e, want)
		}
	}
	kept, refused := append(ahead, l[0], l[1], l[3], l[4]), []api.Card{l[2], l[5]}
	if !reflect.DeepEqual(r.Cards(), kept) || !reflect.DeepEqual(r.Refused(), refused) {
		t.Errorf("%v %v", r.Cards(), r.Refused())
	}
}

// P12.1: the array, and each entry of it; some are reckoned here by hand.
func TestTable(t *testing.T) {
	if radio.Bands != 20 {
		t.Error("Bands:", radio.Bands)
	}
	u := radio.Table()
	if u != ruled() {
		t.Errorf("Table: %v, want %v", u, ruled())
	}
	for i, want := range ruled() {
		isHertz(t, i, want, api.OK)
	}
	isHertz(t, 0, 432920000, api.OK)
	isHertz(t, 0, 160000000+271672320+2*625000-2320, api.OK)
	isHertz(t, 1, 444020992, api.OK)
	isHertz(t, 15, 160000000+15*25000+351368496+2*16937500, api.OK)
	isHertz(t, 16, 160000000+16*25000+356484032+2*625000, api.OK)
	isHertz(t, 19, 160000000+19*25000+411830640+2*4167500-30640, api.OK)
}

// P12.1, R4: a place that the array has not.
func TestHertzOfOdd(t *testing.T) {
	for _, i := range oddPlaces() {
		isHertz(t, i, 0, api.ErrArg)
	}
}

// P12.1: the chapter's, the ends, and what lies just in the midst of two, which the first one has, be it the greater or the less.
func TestNear(t *testing.T) {
	for hertz, place := range map[int64]int{
		0: 0, 1: 0, 440000000: 1, 432920000: 0, 438470496: 0, 438470497: 1, 444020992: 1, 518134032: 16,
		512283584: 10, 512283585: 11, 517005191: 11, 517005192: 11, 517005193: 16, 520597959: 16, 520597960: 12, 520597961: 12,
		528258496: 13, 528258495: 17, 535444032: 14, 535444031: 18, 541525728: 14, 541525729: 15, 563114248: 15, 563114249: 19,
		580610000: 19, 580610001: 19, 1 << 40: 19, 1 << 62: 19, math.MaxInt64: 19, math.MaxInt64 - 1: 19,
	} {
		isNear(t, hertz, place, api.OK)
	}
}

// P12.1: about each entry, about the midst of each two, and anywhere else.
func TestNearOfAny(t *testing.T) {
	u := ruled()
	for i := range u {
		for k := range u {
			for by := int64(-2); by <= 2; by++ {
				hertz := (u[i]+u[k])/2 + by
				isNear(t, hertz, slowNear(hertz), api.OK)
			}
		}
	}
	r := rand.New(rand.NewPCG(12, 1))
	for range 5000 {
		hertz := r.Int64() >> r.IntN(63)
		if r.IntN(2) == 0 {
			hertz = 420000000 + r.Int64N(180000000)
		}
		isNear(t, hertz, slowNear(hertz), api.OK)
	}
}

// P12.1, R4: a number below 0.
func TestNearOfOdd(t *testing.T) {
	for _, hertz := range []int64{-1, -2, -432920000, -1 << 32, -1 << 62, math.MinInt64, math.MinInt64 + 1} {
		isNear(t, hertz, 0, api.ErrArg)
	}
}

// P12.1: the chapter's, and the noughts, of which each keeps its sign.
func TestShift(t *testing.T) {
	isShift(t, 0, 0, 0, api.OK)
	isShift(t, 19, 0, 0, api.OK)
	isShift(t, 0, negative(), negative(), api.OK)
	isShift(t, 0, 149896229, 216460000, api.OK)
	isShift(t, 0, -149896229, -216460000, api.OK)
	isShift(t, 19, 149896229, 290305000, api.OK)
	isShift(t, 1, 1000, 1481.094604454659, api.OK)
}

// P12.1: of all bands, held against fractions that are rounded twice.
func TestShiftOfAny(t *testing.T) {
	r := rand.New(rand.NewPCG(12, 2))
	speeds := evenSpeeds()
	for range 200 {
		speeds = append(speeds, (2*r.Float64()-1)*299792457, math.Ldexp(r.Float64()+0.5, r.IntN(60)-32))
	}
	for i := range radio.Bands {
		for _, speed := range speeds {
			isShift(t, i, speed, slowShift(i, speed), api.OK)
		}
	}
}

// P12.1, R4: wrong places and wrong speeds, each alone and together.
func TestShiftOfOdd(t *testing.T) {
	for _, speed := range oddSpeeds() {
		for i := range radio.Bands {
			isShift(t, i, speed, 0, api.ErrArg)
		}
	}
	for _, speed := range append(oddSpeeds(), evenSpeeds()...) {
		for _, odd := range oddPlaces() {
			isShift(t, odd, speed, 0, api.ErrArg)
		}
	}
}

// isHertz asks for an entry, isNear for the one that is nearest, isShift by how much one is moved.
func isHertz(t *testing.T, i int, want int64, e api.Errno) {
	t.Helper()
	if n, got := radio.Hertz(i); n != want || got != e {
		t.Errorf("Hertz(%d): %d %d, want %d %d", i, n, got, want, e)
	}
}

func isNear(t *testing.T, hertz int64, place int, e api.Errno) {
	t.Helper()
	if i, got := radio.Near(hertz); i != place || got != e {
		t.Errorf("Near(%d): %d %d, want %d %d", hertz, i, got, place, e)
	}
}

func isShift(t *testing.T, i int, speed, moved float64, e api.Errno) {
	t.Helper()
	if x, got := radio.Shift(i, speed); !sameFloat(x, moved) || got != e {
		t.Errorf("Shift(%d, %v): %v %d, want %v %d", i, speed, x, got, moved, e)
	}
}
