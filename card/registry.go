package card

import (
	"slices"

	"reveille/api"
)

// maxInit is the greatest number of an init function; 0 is a package's variable.
const maxInit = 8

// Registry has cards.
type Registry struct {
	cards   shelf
	refused shelf
	notes   [MaxNotes]api.Note
	noted   int
	frozen  bool
}

// shelf has cards in the order in which they were put there, as many as there is room for.
type shelf struct {
	room [api.MaxCards]api.Card
	held int
}

// put puts a card behind the others, in memory of its own; it says whether there was room.
func (s *shelf) put(c api.Card) bool {
	if s.held == len(s.room) {
		return false
	}
	s.room[s.held] = kept(c)
	s.held++
	return true
}

// has says whether a card of that name is there.
func (s *shelf) has(name string) bool {
	return slices.ContainsFunc(s.room[:s.held], func(c api.Card) bool { return c.Name == name })
}

// told are the cards that are there, in memory of their own.
func (s *shelf) told() []api.Card {
	var all []api.Card
	for _, c := range s.room[:s.held] {
		all = append(all, kept(c))
	}
	return all
}

// kept is a card in memory of its own.
func kept(c api.Card) api.Card {
	c.Compat = append([]string(nil), c.Compat...)
	return c
}

// New makes an empty one.
func New() *Registry { return &Registry{} }

// Enter enters a card.
func (r *Registry) Enter(c api.Card) api.Errno {
	if e := r.open(); e != api.OK {
		return e
	}
	if !mayBe(c) {
		return api.ErrCard
	}
	if r.cards.has(c.Name) {
		if !r.refused.put(c) {
			return api.ErrFull
		}
		return api.ErrTaken
	}
	if !r.cards.put(c) {
		return api.ErrFull
	}
	return api.OK
}

// open says whether a registry takes anything yet.
func (r *Registry) open() api.Errno {
	if r == nil {
		return api.ErrNil
	}
	if r.frozen {
		return api.ErrDone
	}
	return api.OK
}

// Mark notes who begins.
func (r *Registry) Mark(pack string, init int, sum int64) api.Errno {
	if e := r.open(); e != api.OK {
		return e
	}
	if !isName(pack) || init < 0 || init > maxInit {
		return api.ErrArg
	}
	if r.noted == len(r.notes) {
		return api.ErrFull
	}
	r.notes[r.noted] = api.Note{Pack: pack, Init: init, Sum: sum, Stood: r.cards.held}
	r.noted++
	return api.OK
}

// Freeze ends it.
func (r *Registry) Freeze() api.Errno {
	if e := r.open(); e != api.OK {
		return e
	}
	r.frozen = true
	return api.OK
}

// Frozen says whether it has ended.
func (r *Registry) Frozen() bool { return r != nil && r.frozen }

// Cards are those that stand.
func (r *Registry) Cards() []api.Card {
	if r == nil {
		return nil
	}
	return r.cards.told()
}

// Refused are those whose names were taken.
func (r *Registry) Refused() []api.Card {
	if r == nil {
		return nil
	}
	return r.refused.told()
}

// Notes are what was noted.
func (r *Registry) Notes() []api.Note {
	if r == nil {
		return nil
	}
	return append([]api.Note(nil), r.notes[:r.noted]...)
}
