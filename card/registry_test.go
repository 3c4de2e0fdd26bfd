package card_test

import (
	"math"
	"math/rand/v2"
	"slices"
	"strings"
	"testing"

	"reveille/api"
	"reveille/card"
)

// other is a card of the same name as the chapter's, but else unlike.
func other() api.Card {
	c := full()
	c.Name = "uart"
	return c
}

// P7.3: the chapter's registry.
func TestRegistry(t *testing.T) {
	r := card.New()
	has(t, "new", r, nil, nil, nil, false)
	isEntered(t, r, uart(), api.OK)
	has(t, "entered", r, []api.Card{uart()}, nil, nil, false)
	isEntered(t, r, other(), api.ErrTaken)
	has(t, "refused", r, []api.Card{uart()}, []api.Card{other()}, nil, false)
	isMarked(t, r, api.Note{Pack: "bus", Init: 1, Sum: 7}, api.OK)
	notes := []api.Note{{Pack: "bus", Init: 1, Sum: 7, Stood: 1}}
	has(t, "marked", r, []api.Card{uart()}, []api.Card{other()}, notes, false)
	if e := r.Freeze(); e != api.OK {
		t.Error("Freeze:", e)
	}
	isEntered(t, r, named("b"), api.ErrDone)
	if e := r.Freeze(); e != api.ErrDone {
		t.Error("Freeze again:", e)
	}
	has(t, "frozen", r, []api.Card{uart()}, []api.Card{other()}, notes, true)
}

// P7.3: each card that may be is entered as it is, one that may not is refused and leaves nothing.
func TestEnterCards(t *testing.T) {
	for what, c := range goodCards() {
		r := card.New()
		isEntered(t, r, c, api.OK)
		isEntered(t, r, c, api.ErrTaken)
		isEntered(t, r, with(func(k *api.Card) { k.Name = c.Name; k.Level = 3 }), api.ErrTaken)
		has(t, what, r, []api.Card{c}, []api.Card{c, with(func(k *api.Card) { k.Name = c.Name; k.Level = 3 })}, nil, false)
	}
	for what, c := range oddCards() {
		r := card.New()
		isEntered(t, r, c, api.ErrCard)
		has(t, what, r, nil, nil, nil, false)
		isEntered(t, r, uart(), api.OK)
		isEntered(t, r, c, api.ErrCard)
		has(t, what, r, []api.Card{uart()}, nil, nil, false)
	}
}

// P7.3: cards and refused ones have room for 64 each, and each its own; an odd card is told ahead of a want of room.
func TestEnterRoom(t *testing.T) {
	r, l := card.New(), many("n", api.MaxCards+1)
	for _, c := range l[:api.MaxCards] {
		isEntered(t, r, c, api.OK)
	}
	isEntered(t, r, l[api.MaxCards], api.ErrFull)
	has(t, "64 cards", r, l[:api.MaxCards], nil, nil, false)
	var refused []api.Card
	for i := range api.MaxCards {
		c := other()
		c.Name, c.Entry = l[i/2].Name, int16(i%48)
		refused = append(refused, c)
		isEntered(t, r, c, api.ErrTaken)
	}
	for _, c := range []api.Card{l[0], l[63], l[64], named("m")} {
		isEntered(t, r, c, api.ErrFull)
	}
	isEntered(t, r, with(func(c *api.Card) { c.Name = "n0"; c.Level = 5 }), api.ErrCard)
	isEntered(t, r, api.Card{}, api.ErrCard)
	isMarked(t, r, api.Note{Pack: "p"}, api.OK)
	has(t, "all full", r, l[:api.MaxCards], refused, []api.Note{{Pack: "p", Stood: 64}}, false)
	r.Freeze()
	isEntered(t, r, l[64], api.ErrDone)
	isEntered(t, r, l[0], api.ErrDone)
	isEntered(t, r, api.Card{}, api.ErrDone)
	has(t, "frozen", r, l[:api.MaxCards], refused, []api.Note{{Pack: "p", Stood: 64}}, true)
}

// P7.3: the refused ones may be full while there is room for cards.
func TestRefusedRoom(t *testing.T) {
	r := card.New()
	isEntered(t, r, uart(), api.OK)
	refused := slices.Repeat([]api.Card{other()}, api.MaxCards)
	for _, c := range refused {
		isEntered(t, r, c, api.ErrTaken)
	}
	isEntered(t, r, other(), api.ErrFull)
	isEntered(t, r, uart(), api.ErrFull)
	isEntered(t, r, named("b"), api.OK)
	has(t, "64 refused", r, []api.Card{uart(), named("b")}, refused, nil, false)
}

// P7.3: who began: a name, 0 to 8, any sum; how many cards stand, the refused ones not counted.
func TestMark(t *testing.T) {
	r := card.New()
	var notes []api.Note
	mark := func(pack string, init int, sum int64, stood int) {
		t.Helper()
		isMarked(t, r, api.Note{Pack: pack, Init: init, Sum: sum}, api.OK)
		notes = append(notes, api.Note{Pack: pack, Init: init, Sum: sum, Stood: stood})
	}
	mark("crystal", 0, math.MinInt64, 0)
	r.Enter(uart())
	mark("crystal", 8, math.MaxInt64, 1)
	r.Enter(uart())
	r.Enter(api.Card{})
	mark("crystal", 8, math.MaxInt64, 1)
	r.Enter(named("b"))
	mark(strings.Repeat("?", api.MaxName), 1, 0, 2)
	for _, n := range []api.Note{{Pack: "", Init: 1}, {Pack: "p", Init: -1}, {Pack: "p", Init: 9}, {Pack: "p", Init: math.MaxInt}, {Pack: "p", Init: math.MinInt}, {Pack: "p", Init: 1 << 32}} {
		isMarked(t, r, n, api.ErrArg)
	}
	for _, s := range noNames() {
		isMarked(t, r, api.Note{Pack: s, Init: 1}, api.ErrArg)
	}
	has(t, "marked", r, []api.Card{uart(), named("b")}, []api.Card{uart()}, notes, false)
	for len(notes) < card.MaxNotes {
		mark("p", len(notes)%9, int64(len(notes)), 2)
	}
	isMarked(t, r, api.Note{Pack: "p", Init: 1}, api.ErrFull)
	isMarked(t, r, api.Note{Pack: "p", Init: 9}, api.ErrArg)
	isMarked(t, r, api.Note{Pack: "", Init: 1}, api.ErrArg)
	isEntered(t, r, named("c"), api.OK)
	has(t, "256 notes", r, []api.Card{uart(), named("b"), named("c")}, []api.Card{uart()}, notes, false)
	r.Freeze()
	isMarked(t, r, api.Note{Pack: "p", Init: 1}, api.ErrDone)
	isMarked(t, r, api.Note{}, api.ErrDone)
	has(t, "frozen", r, []api.Card{uart(), named("b"), named("c")}, []api.Card{uart()}, notes, true)
}

// P7.3: a nil registry tells nothing and takes nothing, whatever it is handed; one that was made otherwise doesn't panic.
func TestNoRegistry(t *testing.T) {
	var r *card.Registry
	for _, c := range []api.Card{uart(), {}} {
		isEntered(t, r, c, api.ErrNil)
	}
	isMarked(t, r, api.Note{Pack: "bus"}, api.ErrNil)
	isMarked(t, r, api.Note{Init: 9}, api.ErrNil)
	if e := r.Freeze(); e != api.ErrNil {
		t.Error("Freeze:", e)
	}
	has(t, "nil", r, nil, nil, nil, false)
	made := &card.Registry{}
	made.Enter(uart())
	made.Enter(uart())
	made.Mark("bus", 1, 7)
	made.Freeze()
	made.Cards()
	made.Refused()
	made.Notes()
	made.Frozen()
}

// R2: registries do not see one another.
func TestRegistriesApart(t *testing.T) {
	a, b := card.New(), card.New()
	isEntered(t, a, uart(), api.OK)
	isEntered(t, b, other(), api.OK)
	isMarked(t, a, api.Note{Pack: "a"}, api.OK)
	a.Freeze()
	isEntered(t, b, named("b"), api.OK)
	has(t, "one", a, []api.Card{uart()}, nil, []api.Note{{Pack: "a", Stood: 1}}, true)
	has(t, "the other", b, []api.Card{other(), named("b")}, nil, nil, false)
}

// slow is a registry by the words of the chapter, in lists.
type slow struct {
	cards, refused []api.Card
	notes          []api.Note
	frozen         bool
}

func (s *slow) enter(c api.Card) api.Errno {
	if s.frozen {
		return api.ErrDone
	}
	if _, e := card.Check([]api.Card{c}); e != api.OK {
		return api.ErrCard
	}
	for _, k := range s.cards {
		if k.Name == c.Name && len(s.refused) < api.MaxCards {
			s.refused = append(s.refused, c)
			return api.ErrTaken
		}
		if k.Name == c.Name {
			return api.ErrFull
		}
	}
	if len(s.cards) == api.MaxCards {
		return api.ErrFull
	}
	s.cards = append(s.cards, c)
	return api.OK
}

func (s *slow) mark(n api.Note) api.Errno {
	if s.frozen {
		return api.ErrDone
	}
	if n.Pack == "" || n.Init < 0 || n.Init > 8 {
		return api.ErrArg
	}
	if len(s.notes) == card.MaxNotes {
		return api.ErrFull
	}
	n.Stood = len(s.cards)
	s.notes = append(s.notes, n)
	return api.OK
}

// do does the same to a registry and to a slow one, and asks that both answer the same.
func do(t *testing.T, r *card.Registry, s *slow, what int) {
	t.Helper()
	switch what {
	case 0:
		isEntered(t, r, uart(), s.enter(uart()))
	case 1:
		isEntered(t, r, other(), s.enter(other()))
	case 2:
		isEntered(t, r, full(), s.enter(full()))
	case 3:
		odd := with(func(c *api.Card) { c.Entry = 48 })
		isEntered(t, r, odd, s.enter(odd))
	case 4, 5:
		n := api.Note{Pack: "bus", Init: what*5 - 20, Sum: int64(len(s.cards) - 3)}
		isMarked(t, r, n, s.mark(n))
	case 6:
		n := api.Note{Init: 1}
		isMarked(t, r, n, s.mark(n))
	case 7:
		want := api.OK
		if s.frozen {
			want = api.ErrDone
		}
		s.frozen = true
		if e := r.Freeze(); e != want {
			t.Errorf("Freeze: %d, want %d", e, want)
		}
	}
}

// P7.3, P7.4: whatever is done, up to five things in any order.
func TestAllShortScripts(t *testing.T) {
	const kinds, steps = 8, 5
	for script := range 1 << (3 * steps) {
		r, s := card.New(), &slow{}
		for left, i := script, 0; i < steps; i++ {
			do(t, r, s, left%kinds)
			left /= kinds
		}
		has(t, "a script", r, s.cards, s.refused, s.notes, s.frozen)
		if t.Failed() {
			t.Fatalf("the script %o", script)
		}
	}
}

// P7.3, P7.4: long scripts over many cards, until all is full.
func TestLongScripts(t *testing.T) {
	rnd := rand.New(rand.NewPCG(7, 4))
	for range 20 {
		r, s, l := card.New(), &slow{}, many("n", 100)
		for i := range 600 {
			c := l[rnd.IntN(len(l))]
			c.Entry = int16(rnd.IntN(52) - 2)
			isEntered(t, r, c, s.enter(c))
			n := api.Note{Pack: c.Name, Init: rnd.IntN(10), Sum: int64(i)}
			isMarked(t, r, n, s.mark(n))
			if rnd.IntN(1000) == 0 {
				do(t, r, s, 7)
			}
			if i%50 == 0 {
				has(t, "amid a script", r, s.cards, s.refused, s.notes, s.frozen)
			}
		}
		has(t, "behind a script", r, s.cards, s.refused, s.notes, s.frozen)
	}
}

// P7.4: cards of which no two have one Name all stand, in whatever order they are entered.
func TestAnyOrder(t *testing.T) {
	rnd := rand.New(rand.NewPCG(7, 44))
	for _, n := range []int{0, 1, 2, 22, api.MaxCards} {
		for range 50 {
			l := many("n", n)
			rnd.Shuffle(n, func(i, j int) { l[i], l[j] = l[j], l[i] })
			r := card.New()
			for _, c := range l {
				isEntered(t, r, c, api.OK)
			}
			has(t, "shuffled", r, l, nil, nil, false)
			isChecked(t, "what stands", r.Cards(), 0, api.OK)
		}
	}
}

// P7.4: what is entered is in Cards or in Refused, in order, or another error was answered.
func TestNothingIsLost(t *testing.T) {
	rnd := rand.New(rand.NewPCG(7, 45))
	for range 50 {
		r := card.New()
		var cards, refused []api.Card
		for range 200 {
			c := many("n", 80)[rnd.IntN(80)]
			c.Level, c.Entry = uint8(rnd.IntN(6)), int16(rnd.IntN(40))
			switch r.Enter(c) {
			case api.OK:
				cards = append(cards, c)
			case api.ErrTaken:
				refused = append(refused, c)
			}
		}
		has(t, "entered", r, cards, refused, nil, false)
	}
}

// P7.4: a frozen registry never changes.
func TestFrozen(t *testing.T) {
	for _, cards := range [][]api.Card{nil, {uart()}, many("n", api.MaxCards)} {
		r := card.New()
		for _, c := range cards {
			isEntered(t, r, c, api.OK)
		}
		if e := r.Freeze(); e != api.OK {
			t.Error("Freeze:", e)
		}
		for _, c := range append(many("n", 70), uart(), api.Card{}) {
			isEntered(t, r, c, api.ErrDone)
			isMarked(t, r, api.Note{Pack: c.Name}, api.ErrDone)
		}
		has(t, "frozen", r, cards, nil, nil, true)
	}
}
