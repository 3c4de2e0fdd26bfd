package tree_test

import (
	"encoding/binary"
	"slices"
	"strings"
	"testing"

	"reveille/api"
	"reveille/tree"
)

// valueIn is the value of a prop in a list of props, and whether it is there.
func valueIn(l []api.Prop, name string) (string, bool) {
	i := slices.IndexFunc(l, func(p api.Prop) bool { return p.Name == name })
	if i < 0 {
		return "", false
	}
	return l[i].Value, true
}

// wantHandle is a node's handle, 0 if it has none.
func wantHandle(n api.Node) uint32 {
	v, _ := valueIn(n.Props, "phandle")
	if len(v) != 4 {
		return 0
	}
	return binary.BigEndian.Uint32([]byte(v))
}

// wantEnabled says whether a node is enabled, by those that are it or above it by their paths.
func wantEnabled(l []api.Node, i int) bool {
	all := paths(l)
	for k, path := range all {
		if k != i && !isBeneath(all[i], path) {
			continue
		}
		if v, ok := valueIn(l[k].Props, "status"); ok && v != "okay\x00" {
			return false
		}
	}
	return true
}

// wantCompat is what a node says that it is.
func wantCompat(n api.Node) []string {
	v, _ := valueIn(n.Props, "compatible")
	if !strings.HasSuffix(v, "\x00") {
		return nil
	}
	return strings.Split(strings.TrimSuffix(v, "\x00"), "\x00")
}

// wantFind is the place of a path, and OK; 0 and ErrNone, if it is none.
func wantFind(l []api.Node, path string) (int, api.Errno) {
	if i := slices.Index(paths(l), path); i >= 0 {
		return i, api.OK
	}
	return 0, api.ErrNone
}

// wantAlias is the place of the node to which an alias leads.
func wantAlias(l []api.Node, name string) (int, api.Errno) {
	at, e := wantFind(l, "/aliases")
	if e != api.OK {
		return 0, e
	}
	v, _ := valueIn(l[at].Props, name)
	if strings.Count(v, "\x00") != 1 || !strings.HasSuffix(v, "\x00") {
		return 0, api.ErrNone
	}
	return wantFind(l, strings.TrimSuffix(v, "\x00"))
}

// isHandle, isAlias hold an answer against what it must be.
func isHandle(t *testing.T, l []api.Node, h uint32, want int, e api.Errno) {
	t.Helper()
	if i, got := tree.Handle(l, h); i != want || got != e {
		t.Errorf("Handle(%v, %d): %d, %d, want %d, %d", l, h, i, got, want, e)
	}
}

func isAlias(t *testing.T, l []api.Node, name string, want int, e api.Errno) {
	t.Helper()
	if i, got := tree.Alias(l, name); i != want || got != e {
		t.Errorf("Alias(%v, %q): %d, %d, want %d, %d", l, name, i, got, want, e)
	}
}

// P4.3: the chapter's examples.
func TestAskExamples(t *testing.T) {
	l := example()
	isHandle(t, l, 7, 1, api.OK)
	isHandle(t, l, 8, 0, api.ErrNone)
	if h, e := tree.HandleOf(l, 2); h != 0 || e != api.ErrNone {
		t.Errorf("HandleOf(2): %d, %d", h, e)
	}
	isAlias(t, l, "s", 2, api.OK)
	isAlias(t, l, "t", 0, api.ErrNone)
	on := []bool{true, true, true, true, true, false, false}
	plain := []bool{true, true, false, true, true, false, false}
	for i := range l {
		if got, e := tree.Enabled(l, i); got != on[i] || e != api.OK {
			t.Errorf("Enabled(%d): %t, %d", i, got, e)
		}
		if got, e := tree.Plain(l, i); got != plain[i] || e != api.OK {
			t.Errorf("Plain(%d): %t, %d", i, got, e)
		}
	}
	if c, e := tree.Compat(l, 2); !slices.Equal(c, []string{"a", "b"}) || e != api.OK {
		t.Errorf("Compat(2): %q, %d", c, e)
	}
}

// P4.3: each node of all small trees and of grown ones.
func TestAsks(t *testing.T) {
	for _, l := range trees() {
		for i, n := range l {
			h, e := tree.HandleOf(l, i)
			if want := wantHandle(n); h != want || (e == api.OK) != (want != 0) || e != api.OK && e != api.ErrNone {
				t.Fatalf("HandleOf(%v, %d): %d, %d, want %d", l, i, h, e, want)
			}
			on := wantEnabled(l, i)
			if got, e := tree.Enabled(l, i); got != on || e != api.OK {
				t.Fatalf("Enabled(%v, %d): %t, %d", l, i, got, e)
			}
			_, has := valueIn(n.Props, "compatible")
			if got, e := tree.Plain(l, i); got != (on && !has) || e != api.OK {
				t.Fatalf("Plain(%v, %d): %t, %d", l, i, got, e)
			}
			if got, e := tree.Compat(l, i); !slices.Equal(got, wantCompat(n)) || e != api.OK {
				t.Fatalf("Compat(%v, %d): %q, %d", l, i, got, e)
			}
		}
		for h := range uint32(12) {
			want, e := slices.IndexFunc(l, func(n api.Node) bool { return wantHandle(n) == h }), api.OK
			if h == 0 {
				want, e = 0, api.ErrArg
			} else if want < 0 {
				want, e = 0, api.ErrNone
			}
			isHandle(t, l, h, want, e)
		}
		for _, name := range []string{"s", "t", "u", "", "status"} {
			want, e := wantAlias(l, name)
			isAlias(t, l, name, want, e)
		}
	}
}

// P4.3: which values are a handle.
func TestHandleValues(t *testing.T) {
	for v, want := range map[string]uint32{
		"\x00\x00\x00\x01": 1, "\x01\x02\x03\x04": 0x01020304, "\xff\xff\xff\xff": 0xffffffff, "abc\x00": 0x61626300,
		"\x00\x00\x00\x00": 0, "": 0, "\x01": 0, "\x00\x00\x01": 0, "\x00\x00\x00\x01\x00": 0, "\x00\x00\x00\x00\x00\x00\x00\x01": 0, "\x00\x00\x00\x01\x00\x00\x00\x01": 0,
	} {
		l := append(with(nil, "a", "b"), api.Node{Parent: 2, Name: "c", Props: []api.Prop{{Name: "phandl"}, {Name: "phandle", Value: v}, {Name: "status", Value: "off\x00"}}})
		h, e := tree.HandleOf(l, 3)
		if h != want || (e == api.OK) != (want != 0) || e != api.OK && e != api.ErrNone {
			t.Errorf("HandleOf with %x: %d, %d, want %d", v, h, e, want)
		}
		if want != 0 {
			isHandle(t, l, want, 3, api.OK)
			isHandle(t, l, want-1|2, 0, api.ErrNone)
		}
	}
}

// P4.3: of several nodes of one handle the first one; 0 is no handle, even where a node says it.
func TestHandle(t *testing.T) {
	five := []api.Prop{{Name: "phandle", Value: "\x00\x00\x00\x05"}}
	l := []api.Node{{Parent: -1, Props: []api.Prop{{Name: "phandle", Value: "\x00\x00\x00\x00"}}}, {Parent: 0, Name: "a"}, {Parent: 1, Name: "b", Props: five}, {Parent: 0, Name: "c", Props: five}}
	isHandle(t, l, 5, 2, api.OK)
	isHandle(t, l, 0, 0, api.ErrArg)
	isHandle(t, l, 1<<32-1, 0, api.ErrNone)
	l[0].Props = five
	isHandle(t, l, 5, 0, api.OK)
	for _, l := range notTrees() {
		isHandle(t, l, 0, 0, api.ErrTree)
		isHandle(t, l, 5, 0, api.ErrTree)
	}
}

// P4.3: aliases that lead to nothing, and those that lead to any node.
func TestAlias(t *testing.T) {
	l := []api.Node{
		{Parent: -1, Props: []api.Prop{{Name: "up", Value: "/a\x00"}}},
		{Parent: 0, Name: "a"},
		{Parent: 1, Name: "aliases", Props: []api.Prop{{Name: "deep", Value: "/a\x00"}}},
		{Parent: 0, Name: "aliases", Props: []api.Prop{
			{Name: "a", Value: "/a\x00"}, {Name: "root", Value: "/\x00"}, {Name: "self", Value: "/aliases\x00"}, {Name: "in", Value: "/aliases/x\x00"},
			{Name: "off", Value: "/off\x00"}, {Name: "again", Value: "a\x00"}, {Name: "none", Value: "/nobody\x00"}, {Name: "bare", Value: "/a"},
			{Name: "empty"}, {Name: "nul", Value: "\x00"}, {Name: "two", Value: "/a\x00/a\x00"}, {Name: "behind", Value: "/a/\x00"}, {Name: "nuls", Value: "/a\x00\x00"},
			{Name: "status", Value: "off\x00"},
		}},
		{Parent: 3, Name: "x", Props: []api.Prop{{Name: "beneath", Value: "/a\x00"}}},
		{Parent: 0, Name: "off", Props: []api.Prop{{Name: "status", Value: "off\x00"}}},
	}
	for name, want := range map[string]int{"a": 1, "root": 0, "self": 3, "in": 4, "off": 5} {
		isAlias(t, l, name, want, api.OK)
	}
	for _, name := range []string{"again", "none", "bare", "empty", "nul", "two", "behind", "nuls", "status", "up", "deep", "beneath", "", "/a", "A", strings.Repeat("a", 1<<16)} {
		isAlias(t, l, name, 0, api.ErrNone)
	}
	isAlias(t, root(), "a", 0, api.ErrNone)
	for _, l := range notTrees() {
		isAlias(t, l, "a", 0, api.ErrTree)
		isAlias(t, l, "", 0, api.ErrTree)
	}
}

// P4.3: which status turns a node off, with all beneath it and nothing else.
func TestEnabledStatus(t *testing.T) {
	for v, on := range map[string]bool{
		"okay\x00": true, "okay": false, "": false, "\x00": false, "ok\x00": false, "okay\x00\x00": false, "okay\x00okay\x00": false, "\x00okay\x00": false,
		"Okay\x00": false, "okay \x00": false, "disabled\x00": false, "\x00\x00\x00\x01": false,
	} {
		for at := range 5 {
			l := append(chain(4), api.Node{Parent: 0, Name: "d"})
			l[at].Props = []api.Prop{{Name: "statu"}, {Name: "status", Value: v}, {Name: "status2"}}
			for i := range l {
				under := at <= i && i < 4 || at == i || at == 0
				got, e := tree.Enabled(l, i)
				if want := on || !under; got != want || e != api.OK {
					t.Errorf("%q at %d: Enabled(%d): %t, %d", v, at, i, got, e)
				}
				if plain, e := tree.Plain(l, i); plain != got || e != api.OK {
					t.Errorf("%q at %d: Plain(%d): %t, %d", v, at, i, plain, e)
				}
			}
		}
	}
}

// P4.3: what values say; a node with a prop compatible is not plain, whatever it says, but those beneath it are.
func TestCompatValues(t *testing.T) {
	for v, want := range map[string][]string{
		"a\x00": {"a"}, "a\x00b\x00": {"a", "b"}, "b\x00a\x00b\x00": {"b", "a", "b"}, "acme,x y\xff\x00": {"acme,x y\xff"},
		"\x00": {""}, "a\x00\x00": {"a", ""}, "": nil, "a": nil, "a\x00b": nil, "\x00b": nil,
	} {
		l := append(with(nil, "a"), api.Node{Parent: 1, Name: "b"})
		l[1].Props = []api.Prop{{Name: "compatibl", Value: "no\x00"}, {Name: "compatible", Value: v}}
		for i := range l {
			says, plain := want, false
			if i != 1 {
				says, plain = nil, true
			}
			if got, e := tree.Compat(l, i); !slices.Equal(got, says) || e != api.OK {
				t.Errorf("Compat(%d) of %q: %q, %d, want %q", i, v, got, e, says)
			}
			if got, e := tree.Plain(l, i); got != plain || e != api.OK {
				t.Errorf("Plain(%d) of %q: %t, %d", i, v, got, e)
			}
		}
	}
	off := with(nil, "a")
	off[1].Props = []api.Prop{{Name: "compatible", Value: "a\x00"}, {Name: "status", Value: "off\x00"}}
	if got, e := tree.Compat(off, 1); !slices.Equal(got, []string{"a"}) || e != api.OK {
		t.Errorf("Compat of one that is turned off: %q, %d", got, e)
	}
}
