package match

import (
	"reveille/api"
	"reveille/card"
	"reveille/roll"
)

// turns are the quirks, and what a card without one makes of its number, by their names.
func turns() map[string]func(n int64) int64 {
	return map[string]func(n int64) int64{
		"":       func(n int64) int64 { return n },
		"slow":   func(n int64) int64 { return n / 4 },
		"half":   func(n int64) int64 { return n / 2 },
		"double": func(n int64) int64 { return n + n },
		"odd": func(n int64) int64 {
			if n%2 == 0 {
				return n
			}
			return -n
		},
	}
}

// Quirk is what a quirk makes of a number.
func Quirk(name string) (func(n int64) int64, bool) {
	turn, known := turns()[name]
	return turn, known
}

// Quirks are the names of all.
func Quirks() []string {
	return []string{"slow", "half", "double", "odd"}
}

// Setting is the number that a card stands for.
func Setting(c api.Card) (int64, api.Errno) {
	if _, e := card.Check([]api.Card{c}); e != api.OK {
		return 0, e
	}
	table, e := roll.Table(c.Family)
	turn, known := Quirk(c.Quirk)
	if e != api.OK || !known || int(c.Entry) >= len(table) {
		return 0, api.ErrNone
	}
	if c.Entry < 0 {
		return 0, api.OK
	}
	return turn(table[c.Entry]), api.OK
}
