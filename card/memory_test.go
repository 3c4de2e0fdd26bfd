package card_test

import (
	"reflect"
	"slices"
	"testing"

	"reveille/api"
	"reveille/card"
)

// roomy is a copy of a list with spare room behind its end, in which something stands.
func roomy[T any](l []T, spare T) []T {
	return append(append([]T(nil), l...), spare, spare)[:len(l)]
}

// whole is a list with the room behind its end.
func whole[T any](l []T) []T { return l[:cap(l)] }

// roomyCard is a copy of a card with such room.
func roomyCard(c api.Card) api.Card {
	c.Compat = roomy(c.Compat, "spare")
	return c
}

// spoil writes over a list of cards and their texts, with the room behind their ends.
func spoil(l []api.Card) {
	for i := range l {
		spoilTexts(l[i])
	}
	for i := range whole(l) {
		whole(l)[i] = api.Card{Name: "spoilt"}
	}
}

func spoilTexts(c api.Card) {
	for i := range whole(c.Compat) {
		whole(c.Compat)[i] = "spoilt"
	}
}

// R3: no call changes what it is handed, or asks what stands behind its end.
func TestArgumentsStay(t *testing.T) {
	var l, want []api.Card
	for _, c := range []api.Card{uart(), full(), compat("a", "b"), compat("a", "a"), compat()} {
		l, want = append(l, roomyCard(c)), append(want, roomyCard(c))
	}
	l, want = roomy(l, uart()), roomy(want, uart())
	isChecked(t, "two of more", l[:2], 0, api.OK)
	isChecked(t, "a Name twice", l, 2, api.ErrCard)
	r := card.New()
	for _, c := range l {
		r.Enter(c)
		card.Same(c, l[0])
	}
	for i := range want {
		if !reflect.DeepEqual(l[i], want[i]) || !slices.Equal(whole(l[i].Compat), whole(want[i].Compat)) {
			t.Errorf("a card has changed: %v", l[i])
		}
	}
	if !reflect.DeepEqual(whole(l)[:len(l)+2], whole(want)[:len(l)+2]) {
		t.Error("what stands behind the end has changed")
	}
}

// R3: nor do the calls on numbers.
func TestNumbersStay(t *testing.T) {
	nums, more := roomy([]int64{1, 2}, 77), roomy([]int64{5}, 78)
	reads := roomy([]card.Read{{Factor: 3, Of: nums}, {Factor: 4, Of: more}, {Factor: 5, Of: nums[:0]}}, card.Read{Factor: 6, Of: []int64{1}})
	isEntry(t, 3, 1, 1, reads, 4+6+20)
	if n := card.Sum(nums); n != 3 {
		t.Error("Sum:", n)
	}
	if !slices.Equal(nums[:4], []int64{1, 2, 77, 77}) || !slices.Equal(more[:3], []int64{5, 78, 78}) || len(reads) != 3 || reads[:5][4].Factor != 6 {
		t.Error("an argument has changed")
	}
}

// R3: a registry keeps nothing of what it was handed.
func TestRegistryKeepsNothing(t *testing.T) {
	r, l := card.New(), []api.Card{roomyCard(uart()), roomyCard(full()), roomyCard(other()), roomyCard(named("b"))}
	for _, c := range l {
		r.Enter(c)
	}
	spoil(l)
	has(t, "what was entered is spoilt", r, []api.Card{uart(), full(), named("b")}, []api.Card{other()}, nil, false)
}

// R3: no later answer shows what is written to an earlier one, and no two lists of an answer share memory.
func TestAnswersAreNew(t *testing.T) {
	r := card.New()
	cards, refused := []api.Card{uart(), full(), named("b")}, []api.Card{other(), uart()}
	for _, c := range append(slices.Clone(cards), refused...) {
		r.Enter(c)
	}
	isMarked(t, r, api.Note{Pack: "bus"}, api.OK)
	notes := []api.Note{{Pack: "bus", Stood: 3}}
	for _, ask := range []func() []api.Card{r.Cards, r.Refused} {
		want := ask()
		for i := range want {
			l := ask()
			spoilTexts(l[i])
			l[i] = want[i]
			if !same(l, want) || !same(ask(), want) {
				t.Errorf("the texts of %s are shared", want[i].Name)
			}
		}
		spoil(ask())
	}
	for i := range whole(r.Notes()) {
		whole(r.Notes())[i] = api.Note{Pack: "spoilt"}
	}
	has(t, "answers are spoilt", r, cards, refused, notes, false)
	l, n := append(r.Cards(), named("spoilt")), append(r.Notes(), api.Note{Pack: "spoilt"})
	isEntered(t, r, named("c"), api.OK)
	isMarked(t, r, api.Note{Pack: "p", Init: 8}, api.OK)
	has(t, "more is entered", r, append(cards, named("c")), refused, append(notes, api.Note{Pack: "p", Init: 8, Stood: 4}), false)
	if l[3].Name != "spoilt" || n[1].Pack != "spoilt" {
		t.Error("an earlier answer has changed")
	}
}
