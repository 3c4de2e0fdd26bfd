package bus_test

import (
	"math"
	"math/big"
	"math/rand/v2"
	"reflect"
	"testing"

	"reveille/api"
	"reveille/bus"
	"reveille/card"
)

// P10.1: the five cards, in order; each of them may be, and has an entry of the array.
func TestCards(t *testing.T) {
	l := bus.Cards()
	if !reflect.DeepEqual(l, chapterCards()) {
		t.Errorf("Cards: %v, want %v", l, chapterCards())
	}
	for _, c := range l {
		if at, e := card.Check([]api.Card{c}); e != api.OK {
			t.Errorf("%s may not be: %d %d", c.Name, at, e)
		}
		if _, e := bus.Begin(int(c.Entry)); e != api.OK {
			t.Errorf("%s has no entry: %d", c.Name, e)
		}
	}
	if at, e := card.Check(l); at != 0 || e != api.OK {
		t.Errorf("the list may not be: %d %d", at, e)
	}
}

// P10.1: no two cards have one Name, so that a registry takes all.
func TestCardsEntered(t *testing.T) {
	r, l := card.New(), bus.Cards()
	for _, c := range l {
		if e := r.Enter(c); e != api.OK {
			t.Errorf("%s: %d", c.Name, e)
		}
	}
	if !reflect.DeepEqual(r.Cards(), l) || len(r.Refused()) != 0 {
		t.Errorf("%v %v", r.Cards(), r.Refused())
	}
}

// P10.1: the array, and each entry of it; some are reckoned here by hand.
func TestTable(t *testing.T) {
	if bus.Lines != 20 {
		t.Error("Lines:", bus.Lines)
	}
	u := bus.Table()
	if u != ruled() {
		t.Errorf("Table: %v, want %v", u, ruled())
	}
	for i, want := range ruled() {
		isBegin(t, i, want, api.OK)
	}
	isBegin(t, 0, 268435456+32768+4*800000+4096, api.OK)
	isBegin(t, 1, 268435456+65536+2000000+4*2312500, api.OK)
	isBegin(t, 18, 268435456+18*65536+19000000+4*19525000, api.OK)
	isBegin(t, 19, 411830640, api.OK)
}

// P10.1, R4: a place that the array has not.
func TestBeginOfOdd(t *testing.T) {
	for _, i := range oddPlaces() {
		isBegin(t, i, 0, api.ErrArg)
	}
}

// slowWhich is Which by the words of the chapter: the greatest entry first, then the first place that has it.
func slowWhich(at int64) (int, api.Errno) {
	u := ruled()
	greatest, e := int64(0), api.ErrNone
	for _, begin := range u {
		if begin <= at && (e != api.OK || begin > greatest) {
			greatest, e = begin, api.OK
		}
	}
	for i, begin := range u {
		if e == api.OK && begin == greatest {
			return i, e
		}
	}
	return 0, e
}

// P10.1: the chapter's, and the ends; what lies ahead of all.
func TestWhich(t *testing.T) {
	first, last := int64(271672320), int64(411830640)
	for _, at := range []int64{0, 1, -1, first - 1, 268435456, math.MinInt64, math.MinInt64 + 1, -first, -last} {
		isWhich(t, at, 0, api.ErrNone)
	}
	for at, place := range map[int64]int{
		first: 0, first + 1: 0, 279750991: 0, 279750992: 1, 279750993: 1, 284866527: 1, 284866528: 2,
		366715103: 17, 366715104: 18, last - 1: 18, last: 19, last + 1: 19, math.MaxInt64: 19, math.MaxInt64 - 1: 19, 1 << 62: 19,
	} {
		isWhich(t, at, place, api.OK)
	}
}

// P10.1, P10.5: all about each entry, and anywhere else; a Begin leads to an entry that is as great.
func TestWhichOfAny(t *testing.T) {
	u := ruled()
	for i, begin := range u {
		for at := begin - 3; at <= begin+3; at++ {
			place, e := slowWhich(at)
			isWhich(t, at, place, e)
		}
		if place, e := bus.Which(begin); e != api.OK || u[place] != u[i] {
			t.Errorf("Which(%d): %d %d", begin, place, e)
		}
	}
	r := rand.New(rand.NewPCG(10, 1))
	for range 20000 {
		at := int64(r.Uint64()) >> r.IntN(64)
		if r.IntN(2) == 0 {
			at = 260000000 + r.Int64N(160000000)
		}
		place, e := slowWhich(at)
		isWhich(t, at, place, e)
	}
}

// P10.1: slots; the ends of what has room, and those just past them.
func TestSlot(t *testing.T) {
	u := ruled()
	for i, begin := range u {
		isSlot(t, i, 2, 4, begin+8, api.OK)
		isSlot(t, i, 1, math.MaxInt64-begin, math.MaxInt64, api.OK)
		isSlot(t, i, math.MaxInt64-begin, 1, math.MaxInt64, api.OK)
		isSlot(t, i, 1, math.MaxInt64-begin+1, 0, api.ErrArg)
		isSlot(t, i, math.MaxInt64-begin+1, 1, 0, api.ErrArg)
	}
	for _, x := range [][2]int64{
		{1 << 62, 4}, {4, 1 << 62}, {1 << 62, 2}, {1 << 61, 4}, {1 << 32, 1 << 32}, {1 << 32, 1 << 31}, {1<<32 + 1, 1 << 32}, {3, 1 << 62},
		{1 << 63 / 3, 6}, {math.MaxInt64, math.MaxInt64}, {math.MaxInt64, 1}, {1, math.MaxInt64}, {math.MaxInt64, 2}, {1 << 33, 1 << 32},
	} {
		isSlot(t, 0, x[0], x[1], 0, api.ErrArg)
		isSlot(t, 19, x[1], x[0], 0, api.ErrArg)
	}
}

// P10.1, P10.5: a slot with n 0, or with a stride 0, is where the window begins, however great the other is.
func TestSlotOfNought(t *testing.T) {
	for i, begin := range ruled() {
		for _, n := range []int64{0, 1, 4, 1 << 32, 1 << 62, math.MaxInt64} {
			isSlot(t, i, 0, n, begin, api.OK)
			isSlot(t, i, n, 0, begin, api.OK)
		}
	}
}

// P10.1, R4: a wrong place, a number below 0, or both.
func TestSlotOfOdd(t *testing.T) {
	odd := []int64{-1, -2, -4, -1 << 32, math.MinInt64, math.MinInt64 + 1}
	for _, n := range []int64{0, 1, 5, math.MaxInt64} {
		for _, i := range oddPlaces() {
			isSlot(t, i, 0, n, 0, api.ErrArg)
			isSlot(t, i, n, 0, 0, api.ErrArg)
		}
		for _, below := range odd {
			isSlot(t, 0, below, n, 0, api.ErrArg)
			isSlot(t, 0, n, below, 0, api.ErrArg)
		}
	}
	for _, n := range odd {
		for _, stride := range odd {
			isSlot(t, 19, n, stride, 0, api.ErrArg)
		}
	}
}

// P10.1: of any numbers, held against sums and products of any size.
func TestSlotOfAny(t *testing.T) {
	r := rand.New(rand.NewPCG(10, 2))
	for range 50000 {
		i, n, stride := r.IntN(bus.Lines), r.Int64()>>r.IntN(63), r.Int64()>>r.IntN(63)
		if r.IntN(3) == 0 { // about the end
			stride = (math.MaxInt64-ruled()[i])/max(n, 1) + r.Int64N(2)
		}
		place := new(big.Int).Mul(big.NewInt(n), big.NewInt(stride))
		if place.Add(place, big.NewInt(ruled()[i])); place.IsInt64() {
			isSlot(t, i, n, stride, place.Int64(), api.OK)
		} else {
			isSlot(t, i, n, stride, 0, api.ErrArg)
		}
	}
}

// isBegin asks where a window begins, isWhich in which one something lies, isSlot for a place in one.
func isBegin(t *testing.T, i int, begin int64, e api.Errno) {
	t.Helper()
	if n, got := bus.Begin(i); n != begin || got != e {
		t.Errorf("Begin(%d): %d %d, want %d %d", i, n, got, begin, e)
	}
}

func isWhich(t *testing.T, at int64, place int, e api.Errno) {
	t.Helper()
	if n, got := bus.Which(at); n != place || got != e {
		t.Errorf("Which(%d): %d %d, want %d %d", at, n, got, place, e)
	}
}

func isSlot(t *testing.T, i int, n, stride, place int64, e api.Errno) {
	t.Helper()
	if at, got := bus.Slot(i, n, stride); at != place || got != e {
		t.Errorf("Slot(%d, %d, %d): %d %d, want %d %d", i, n, stride, at, got, place, e)
	}
}
