package words_test

import (
	"strings"
	"testing"

	"reveille/api"
	"reveille/words"
)

const nameBytes = "abcdefghijklmnopqrstuvwxyz0123456789,._+-@#?"

// P1.1: each byte by itself, and in the midst of a name.
func TestNameBytes(t *testing.T) {
	for c := range 256 {
		want := api.ErrName
		if strings.IndexByte(nameBytes, byte(c)) >= 0 {
			want = api.OK
		}
		one := string([]byte{byte(c)})
		for _, s := range []string{one, "a" + one + "b", one + "b", "a" + one} {
			if e := words.Name(s); e != want {
				t.Errorf("Name(%q): %d, want %d", s, e, want)
			}
		}
	}
}

// P1.1: the lengths, and the chapter's texts.
func TestNameForms(t *testing.T) {
	for _, x := range []struct {
		s string
		e api.Errno
	}{
		{"", api.ErrName},
		{"A", api.ErrName},
		{"a b", api.ErrName},
		{"é", api.ErrName},
		{"a/b", api.ErrName},
		{"uart@fe00", api.OK},
		{"?", api.OK},
		{"#clock-cells", api.OK},
		{strings.Repeat("a", api.MaxName), api.OK},
		{strings.Repeat("a", api.MaxName+1), api.ErrName},
		{strings.Repeat("a", 1<<16), api.ErrName},
	} {
		if e := words.Name(x.s); e != x.e {
			t.Errorf("Name(%q): %d, want %d", x.s, e, x.e)
		}
	}
}

// P1.1: a name is parted at its last @; of what is none nothing is told.
func TestUnit(t *testing.T) {
	long := strings.Repeat("a", api.MaxName-1) + "@"
	for _, x := range []struct {
		s, base, at string
		e           api.Errno
	}{
		{"uart@fe00", "uart", "fe00", api.OK},
		{"a@b@c", "a@b", "c", api.OK},
		{"@", "", "", api.OK},
		{"@@", "@", "", api.OK},
		{"@a", "", "a", api.OK},
		{"a@", "a", "", api.OK},
		{"a", "a", "", api.OK},
		{long, long[:api.MaxName-1], "", api.OK},
		{"a" + long, "", "", api.ErrName},
		{"", "", "", api.ErrName},
		{"A@b", "", "", api.ErrName},
		{"a@B", "", "", api.ErrName},
		{"a@b c", "", "", api.ErrName},
	} {
		base, at, e := words.Unit(x.s)
		if base != x.base || at != x.at || e != x.e {
			t.Errorf("Unit(%q): %q, %q, %d, want %q, %q, %d", x.s, base, at, e, x.base, x.at, x.e)
		}
	}
}
