package sensor_test

import (
	"reflect"
	"testing"

	"reveille/api"
	"reveille/bus"
	"reveille/card"
	"reveille/sensor"
)

// P11.1: the five cards, in order; each of them may be, and has an entry of the array or none.
func TestCards(t *testing.T) {
	l := sensor.Cards()
	if !reflect.DeepEqual(l, chapterCards()) {
		t.Errorf("Cards: %v, want %v", l, chapterCards())
	}
	for _, c := range l {
		if at, e := card.Check([]api.Card{c}); e != api.OK {
			t.Errorf("%s may not be: %d %d", c.Name, at, e)
		}
		if _, e := sensor.Micro(int(c.Entry)); e != api.OK && c.Entry != -1 {
			t.Errorf("%s has no entry: %d", c.Name, e)
		}
	}
}

// P11.1: adc stands twice, so that a registry keeps the first one and refuses the other.
func TestCardsEntered(t *testing.T) {
	if at, e := card.Check(sensor.Cards()); at != 4 || e != api.ErrCard {
		t.Errorf("the list: %d %d", at, e)
	}
	r, l := card.New(), sensor.Cards()
	for i, c := range l {
		want := api.OK
		if i == 4 {
			want = api.ErrTaken
		}
		if e := r.Enter(c); e != want {
			t.Errorf("%d %s: %d, want %d", i, c.Name, e, want)
		}
	}
	if !reflect.DeepEqual(r.Cards(), l[:4]) || !reflect.DeepEqual(r.Refused(), l[4:]) {
		t.Errorf("%v %v", r.Cards(), r.Refused())
	}
}

// P11.1: the array, and each entry of it; some are reckoned here by hand.
func TestTable(t *testing.T) {
	if sensor.Points != 16 || bus.Lines-sensor.Points != 4 {
		t.Error("Points:", sensor.Points)
	}
	u := sensor.Table()
	if u != ruled() {
		t.Errorf("Table: %v, want %v", u, ruled())
	}
	for i, want := range ruled() {
		isMicro(t, i, want, api.OK)
	}
	isMicro(t, 0, -200000+800000+25000, api.OK)
	isMicro(t, 1, -190000+2312500, api.OK)
	isMicro(t, 14, -60000+15475000, api.OK)
	isMicro(t, 15, -50000+16487500+500000, api.OK)
	for i, want := range map[int]int64{0: 625000, 1: 2122500, 2: 3145000, 3: 4167500, 14: 15415000, 15: 16937500} {
		isMicro(t, i, want, api.OK)
	}
}

// P11.1, R4: a place that the array has not.
func TestMicroOfOdd(t *testing.T) {
	for _, i := range oddPlaces() {
		isMicro(t, i, 0, api.ErrArg)
	}
}

// isMicro asks for an entry.
func isMicro(t *testing.T, i int, want int64, e api.Errno) {
	t.Helper()
	if n, got := sensor.Micro(i); n != want || got != e {
		t.Errorf("Micro(%d): %d %d, want %d %d", i, n, got, want, e)
	}
}
