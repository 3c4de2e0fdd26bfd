package blob_test

import (
	"encoding/binary"
	"encoding/hex"
	"fmt"
	"math"
	"math/rand/v2"
	"slices"
	"strings"
	"testing"

	"reveille/api"
	"reveille/blob"
)

// root is the list with the root alone.
func root() []api.Node { return []api.Node{{Parent: -1}} }

// two is the tree T of the chapter's examples.
func two() []api.Node {
	return []api.Node{
		{Parent: -1, Props: []api.Prop{{Name: "a", Value: "\x01"}}},
		{Parent: 0, Name: "x", Props: []api.Prop{{Name: "a"}, {Name: "bc", Value: "\x00\x00\x00\x07"}}},
	}
}

// bushy is a tree with kids on several levels, names of several lengths and values of all fillings.
func bushy() []api.Node {
	return []api.Node{
		{Parent: -1, Props: []api.Prop{{Name: "model", Value: "Kx\x00"}, {Name: "c", Value: ""}}},
		{Parent: 0, Name: "bus", Props: []api.Prop{{Name: "c", Value: "12345"}}},
		{Parent: 1, Name: "bus", Props: nil},
		{Parent: 2, Name: "a@1", Props: []api.Prop{{Name: "bc", Value: "\x00\x00\x00\x09"}, {Name: "model", Value: "\x00"}}},
		{Parent: 1, Name: "a@1"},
		{Parent: 0, Name: "a", Props: []api.Prop{{Name: "?", Value: "123456"}, {Name: "abc", Value: "1234567"}}},
		{Parent: 5, Name: "long"},
	}
}

func sameTree(a, b []api.Node) bool {
	return slices.EqualFunc(a, b, func(x, y api.Node) bool {
		return x.Parent == y.Parent && x.Name == y.Name && slices.Equal(x.Props, y.Props)
	})
}

// copied is a tree in memory of its own.
func copied(l []api.Node) []api.Node {
	c := slices.Clone(l)
	for i := range c {
		c[i].Props = slices.Clone(c[i].Props)
	}
	return c
}

func wantName(s string) bool {
	return len(s) >= 1 && len(s) <= 31 && strings.Trim(s, "abcdefghijklmnopqrstuvwxyz0123456789,._+-@#?") == ""
}

// kidsOf are the places of a node's kids, rising.
func kidsOf(l []api.Node, i int) []int {
	var kids []int
	for j := range l {
		if l[j].Parent == i && j != i {
			kids = append(kids, j)
		}
	}
	return kids
}

// preorder goes through the places of a node and all beneath it, as they must stand, with the depth of each.
func preorder(l []api.Node, i, depth int, do func(i, depth int)) {
	do(i, depth)
	for _, k := range kidsOf(l, i) {
		if k > i {
			preorder(l, k, depth+1, do)
		}
	}
}

// wantTree says whether a list is a tree, by DOC.md's words one by one.
func wantTree(l []api.Node) bool {
	if len(l) == 0 || len(l) > 512 || l[0].Parent != -1 || l[0].Name != "" {
		return false
	}
	paths := map[string]bool{}
	for i, n := range l {
		if i > 0 && (!wantName(n.Name) || n.Parent < 0 || n.Parent >= i) {
			return false
		}
		key := fmt.Sprint(n.Parent, "/", n.Name)
		props := map[string]bool{}
		for _, p := range n.Props {
			if !wantName(p.Name) || props[p.Name] || len(p.Value) > 1024 {
				return false
			}
			props[p.Name] = true
		}
		if paths[key] || len(n.Props) > 32 {
			return false
		}
		paths[key] = true
	}
	ok, next := true, 0
	preorder(l, 0, 1, func(i, depth int) {
		ok = ok && i == next && depth <= 16
		next++
	})
	return ok && next == len(l)
}

// cell is a number as four bytes.
func cell(n ...int) string {
	var b []byte
	for _, x := range n {
		b = binary.BigEndian.AppendUint32(b, uint32(x))
	}
	return string(b)
}

func fill(s string) string { return s + strings.Repeat("\x00", (4-len(s)%4)%4) }

// wantNames are a list's names of props, each once.
func wantNames(l []api.Node) []string {
	var names []string
	for _, n := range l {
		for _, p := range n.Props {
			if !slices.Contains(names, p.Name) {
				names = append(names, p.Name)
			}
		}
	}
	return names
}

// wantBody is a node of a list as the structure tells it, with all beneath it.
func wantBody(l []api.Node, names []string, i int) string {
	s := cell(1) + fill(l[i].Name+"\x00")
	for _, p := range l[i].Props {
		place := 0
		for _, name := range names[:slices.Index(names, p.Name)] {
			place += len(name) + 1
		}
		s += cell(3, len(p.Value), place) + fill(p.Value)
	}
	for _, k := range kidsOf(l, i) {
		s += wantBody(l, names, k)
	}
	return s + cell(2)
}

// forged is the blob of a structure and strings, with so many nodes told.
func forged(nodes int, body, texts string) string {
	end := 32 + len(body)
	return cell(0xd00dfeed, end+len(texts), 32, len(body), end, len(texts), 17, nodes) + body + texts
}

// wantBlob is a list's blob, as if it were a tree.
func wantBlob(l []api.Node) string {
	names := wantNames(l)
	texts := ""
	for _, name := range names {
		texts += name + "\x00"
	}
	return forged(len(l), wantBody(l, names, 0)+cell(9), texts)
}

// isTold holds Encode, Strings, Decode and Look of a tree against what they must tell.
func isTold(t *testing.T, l []api.Node) {
	t.Helper()
	want, names := wantBlob(l), wantNames(l)
	s, e := blob.Encode(l)
	if s != want || e != api.OK {
		t.Fatalf("Encode(%+v): %x, %d, want %x", l, s, e, want)
	}
	if got, e := blob.Strings(l); !slices.Equal(got, names) || e != api.OK {
		t.Fatalf("Strings(%+v): %q, %d, want %q", l, got, e, names)
	}
	if got, e := blob.Decode(s); !sameTree(got, l) || e != api.OK {
		t.Fatalf("Decode(%x): %+v, %d, want %+v", s, got, e, l)
	}
	texts := 0
	for _, name := range names {
		texts += len(name) + 1
	}
	head := blob.Head{Total: len(want), Struct: len(want) - 32 - texts, Strings: texts, Nodes: len(l)}
	if got, e := blob.Look(s); got != head || e != api.OK {
		t.Fatalf("Look(%x): %+v, %d, want %+v", s, got, e, head)
	}
}

// isNoTree asks that Encode and Strings refuse a list.
func isNoTree(t *testing.T, what string, l []api.Node) {
	t.Helper()
	if s, e := blob.Encode(l); s != "" || e != api.ErrTree {
		t.Errorf("Encode, %s: %x, %d", what, s, e)
	}
	if names, e := blob.Strings(l); len(names) != 0 || e != api.ErrTree {
		t.Errorf("Strings, %s: %q, %d", what, names, e)
	}
}

// P3.1, P3.2: the chapter's examples.
func TestExamples(t *testing.T) {
	r := "d00dfeed" + "00000030" + "00000020" + "00000010" + "00000030" + "00000000" + "00000011" + "00000001" + "00000001" + "00000000" + "00000002" + "00000009"
	if s, e := blob.Encode(root()); hex.EncodeToString([]byte(s)) != r || e != api.OK {
		t.Errorf("Encode(R): %x, %d", s, e)
	}
	s, e := blob.Encode(two())
	body := "00000001" + "00000000" + "00000003" + "00000001" + "00000000" + "01000000" +
		"00000001" + "78000000" + "00000003" + "00000000" + "00000000" + "00000003" + "00000004" + "00000002" + "00000007" + "00000002" + "00000002" + "00000009"
	if e != api.OK || len(s) != 109 || hex.EncodeToString([]byte(s[32:])) != body+"6100626300" {
		t.Errorf("Encode(T): %x, %d", s, e)
	}
	if l, e := blob.Strings(two()); !slices.Equal(l, []string{"a", "bc"}) || e != api.OK {
		t.Errorf("Strings(T): %q, %d", l, e)
	}
	if h, e := blob.Look(s); h != (blob.Head{Total: 109, Struct: 72, Strings: 5, Nodes: 2}) || e != api.OK {
		t.Errorf("Look(T): %+v, %d", h, e)
	}
	isTold(t, root())
	isTold(t, two())
	isTold(t, bushy())
	isNoTree(t, "no nodes", nil)
	isNoTree(t, "no nodes", []api.Node{})
	isNoTree(t, "two roots", []api.Node{{Parent: -1}, {Parent: -1}})
	isNoTree(t, "a kid with an empty name", []api.Node{{Parent: -1}, {Parent: 0}})
}

// lists goes through all lists of at most n nodes whose parents and names are of these.
func lists(n int, parents []int, names []string, do func(l []api.Node)) {
	var grow func(l []api.Node)
	grow = func(l []api.Node) {
		do(l)
		if len(l) == n {
			return
		}
		for _, p := range parents {
			for _, name := range names {
				grow(append(slices.Clone(l), api.Node{Parent: p, Name: name}))
			}
		}
	}
	grow(nil)
}

// P3.1, P3.2, P3.3: of all short lists just the trees have blobs, unlike trees unlike ones.
func TestShortLists(t *testing.T) {
	from := map[string][]api.Node{}
	trees := 0
	look := func(l []api.Node) {
		if !wantTree(l) {
			isNoTree(t, fmt.Sprint(l), l)
			return
		}
		trees++
		isTold(t, l)
		s, _ := blob.Encode(l)
		if old, ok := from[s]; ok && !sameTree(old, l) {
			t.Fatalf("%+v and %+v have one blob", old, l)
		}
		from[s] = copied(l)
	}
	lists(2, []int{-2, -1, 0, 1, 2, 512, math.MaxInt, math.MinInt}, []string{"", "a", "A", "/", "a\x00", "\x00"}, look)
	lists(4, []int{-1, 0, 1, 2, 3}, []string{"", "a", "b"}, look)
	behind := func(l []api.Node) { look(append(root(), l...)) }
	lists(4, []int{0, 1, 2, 3, 4, 5}, []string{"a", "b"}, behind)
	lists(5, []int{0, 1, 2, 3, 4}, []string{"a"}, behind)
	if trees < 100 {
		t.Errorf("only %d trees were looked at", trees)
	}
}

// P3.3: trees whose props stand in unlike orders, at unlike nodes, or say unlike things.
func TestShortProps(t *testing.T) {
	var some [][]api.Prop
	values := []string{"", "\x00", "\x00\x00\x00\x00", "\x00\x00\x00\x02", "\x01"}
	for _, a := range values {
		some = append(some, []api.Prop{{Name: "a", Value: a}}, []api.Prop{{Name: "b", Value: a}}, []api.Prop{{Name: "ab", Value: a}})
		for _, b := range values {
			some = append(some, []api.Prop{{Name: "a", Value: a}, {Name: "b", Value: b}}, []api.Prop{{Name: "b", Value: b}, {Name: "a", Value: a}})
			isNoTree(t, "a prop twice", []api.Node{{Parent: -1, Props: []api.Prop{{Name: "a", Value: a}, {Name: "a", Value: b}}}})
		}
	}
	some = append(some, nil)
	from := map[string]string{}
	for _, first := range some {
		for _, second := range some {
			l := []api.Node{{Parent: -1, Props: first}, {Parent: 0, Name: "x", Props: second}}
			isTold(t, l)
			s, _ := blob.Encode(l)
			if old, ok := from[s]; ok {
				t.Fatalf("%+v and %s have one blob", l, old)
			}
			from[s] = fmt.Sprintf("%+v", l)
		}
	}
}

// P3.1: each byte as a node's name and as a prop's, alone and within.
func TestNames(t *testing.T) {
	for c := range 256 {
		for _, name := range []string{string([]byte{byte(c)}), string([]byte{'a', byte(c)}), string([]byte{byte(c), 'a'}), string([]byte{'a', byte(c), 'a'})} {
			node := []api.Node{{Parent: -1}, {Parent: 0, Name: name}}
			prop := []api.Node{{Parent: -1, Props: []api.Prop{{Name: name, Value: "v"}}}}
			for _, l := range [][]api.Node{node, prop} {
				if wantName(name) {
					isTold(t, l)
					continue
				}
				isNoTree(t, fmt.Sprintf("the name %q", name), l)
				// Behind a name's byte 00 its filling may go on: then it is the blob of a shorter name.
				if decodedAsTold(t, wantBlob(l)) && c != 0 {
					t.Errorf("the name %q was read", name)
				}
			}
		}
	}
	isNoTree(t, "a root with a name", []api.Node{{Parent: -1, Name: "a"}})
	isNoTree(t, "a prop without a name", []api.Node{{Parent: -1, Props: []api.Prop{{}}}})
}

// wide is a root with n kids, deep a chain of n nodes.
func wide(n int) []api.Node {
	l := root()
	for i := range n {
		l = append(l, api.Node{Parent: 0, Name: fmt.Sprint("k", i)})
	}
	return l
}

func deep(n int) []api.Node {
	l := root()
	for i := 1; i < n; i++ {
		l = append(l, api.Node{Parent: i - 1, Name: "a"})
	}
	return l
}

// with is the tree of two nodes in which the last one has n props with names of so many bytes and values of so many.
func with(n, name, value int) []api.Node {
	l := []api.Node{{Parent: -1}, {Parent: 0, Name: "x"}}
	for i := range n {
		s := fmt.Sprintf("%02d%s", i, strings.Repeat("n", 64))[:name]
		l[1].Props = append(l[1].Props, api.Prop{Name: s, Value: strings.Repeat("v", value)})
	}
	return l
}

// P3.1: each limit, and one past it, told and read.
func TestLimits(t *testing.T) {
	named := func(n int) []api.Node {
		return []api.Node{{Parent: -1}, {Parent: 0, Name: strings.Repeat("n", n)}}
	}
	for _, l := range [][]api.Node{
		wide(511), deep(16), with(32, 31, 1024), with(1, 31, 1), with(1, 1, 1024), with(1, 1, 1023), with(32, 2, 0), named(31), named(1),
		append(deep(16), wide(496)[1:]...), append(deep(16), api.Node{Parent: 14, Name: "b"}, api.Node{Parent: 0, Name: "b"}),
	} {
		isTold(t, l)
	}
	for what, l := range map[string][]api.Node{
		"513 nodes": wide(512), "514 nodes": wide(513), "1024 nodes": wide(1023), "17 deep": deep(17), "18 deep": deep(18), "400 deep": deep(400),
		"513 nodes, 16 deep": append(deep(16), wide(497)[1:]...),
		"33 props":           with(33, 2, 0), "34 props": with(34, 2, 0), "99 props": with(99, 2, 0),
		"a prop's name of 32": with(1, 32, 1), "a prop's name of 33": with(1, 33, 1),
		"a value of 1025": with(1, 1, 1025), "a value of 1028": with(1, 1, 1028), "the last value of 1025": append(wide(3), api.Node{Parent: 3, Name: "z", Props: with(1, 1, 1025)[1].Props}),
		"a name of 32": named(32), "a name of 33": named(33), "a name of 1000": named(1000), "a name of none": named(0),
		"the root's 33 props":  {{Parent: -1, Props: with(33, 2, 0)[1].Props}},
		"the root's value":     {{Parent: -1, Props: with(1, 1, 1025)[1].Props}},
		"two kids of one name": {{Parent: -1}, {Parent: 0, Name: "a"}, {Parent: 0, Name: "a"}},
		"two far kids of one":  {{Parent: -1}, {Parent: 0, Name: "a"}, {Parent: 1, Name: "a"}, {Parent: 0, Name: "b"}, {Parent: 0, Name: "a"}},
		"a prop twice":         {{Parent: -1, Props: []api.Prop{{Name: "a"}, {Name: "b"}, {Name: "a"}}}},
		"a root with a name":   {{Parent: -1, Name: "a"}},
	} {
		isNoTree(t, what, l)
		isNoBlob(t, what, wantBlob(l))
	}
}

// P3.1: lists that are not in preorder, or whose parents are none.
func TestOrder(t *testing.T) {
	kid := func(parent int, name string) api.Node { return api.Node{Parent: parent, Name: name} }
	for what, l := range map[string][]api.Node{
		"a kid's kid behind the next kid": {{Parent: -1}, kid(0, "a"), kid(0, "b"), kid(1, "c")},
		"a kid behind a deeper branch":    {{Parent: -1}, kid(0, "a"), kid(1, "b"), kid(0, "c"), kid(2, "d")},
		"a parent behind":                 {{Parent: -1}, kid(2, "a"), kid(0, "b")},
		"its own parent":                  {{Parent: -1}, kid(1, "a")},
		"a parent past the end":           {{Parent: -1}, kid(9, "a")},
		"a parent below -1":               {{Parent: -1}, kid(-2, "a")},
		"a named second root":             {{Parent: -1}, kid(-1, "a")},
		"a root with the parent 0":        {{Parent: 0}},
		"a root with the parent -2":       {{Parent: -2}},
	} {
		isNoTree(t, what, l)
	}
}

// some is a tree by chance, always the same one of a seed.
func some(seed uint64) []api.Node {
	r := rand.New(rand.NewPCG(seed, 7))
	props := func() []api.Prop {
		var l []api.Prop
		for _, i := range r.Perm(8)[:r.IntN(5)] {
			v := make([]byte, r.IntN(10))
			for j := range v {
				v[j] = byte(r.IntN(4))
			}
			l = append(l, api.Prop{Name: "phandle-a"[i:], Value: string(v)})
		}
		return l
	}
	l := []api.Node{{Parent: -1, Props: props()}}
	path := []int{0}
	for i := 1; i < 1+r.IntN(12); i++ {
		path = path[:1+r.IntN(len(path))]
		l = append(l, api.Node{Parent: path[len(path)-1], Name: fmt.Sprint("n", i), Props: props()})
		path = append(path, i)
	}
	return l
}

// P3.1, P3.2, P3.3: many trees, with props by names that end alike.
func TestSomeTrees(t *testing.T) {
	for seed := range uint64(3000) {
		isTold(t, some(seed))
	}
}

// P3.1, P3.3: the greatest tree that there may be.
func TestGreatest(t *testing.T) {
	l := wide(511)
	for i := range l {
		for j := range 32 {
			l[i].Props = append(l[i].Props, api.Prop{Name: fmt.Sprintf("%031d", 32*i+j), Value: strings.Repeat("\xff", 1024)})
		}
		if i > 0 {
			l[i].Name = fmt.Sprintf("%031d", i)
		}
	}
	s, e := blob.Encode(l)
	texts := 512 * 32 * 32
	body := 512*(4+32+4+32*(12+1024)) - 32 + 4 + 4
	if e != api.OK || len(s) != 32+body+texts {
		t.Fatalf("Encode: %d bytes, %d", len(s), e)
	}
	if got, e := blob.Decode(s); !sameTree(got, l) || e != api.OK {
		t.Errorf("Decode: %d nodes, %d", len(got), e)
	}
	if h, e := blob.Look(s); h != (blob.Head{Total: len(s), Struct: body, Strings: texts, Nodes: 512}) || e != api.OK {
		t.Errorf("Look: %+v, %d", h, e)
	}
	if got, e := blob.Strings(l); len(got) != 512*32 || e != api.OK {
		t.Errorf("Strings: %d, %d", len(got), e)
	}
}

// R3: what is handed in is not read beyond its length and not changed; R6: an empty list may be nil or empty.
func TestHandedIn(t *testing.T) {
	room := append(bushy(), api.Node{Parent: -5, Name: "room"})
	for i := range room {
		room[i].Props = append(room[i].Props, api.Prop{Name: "ROOM", Value: strings.Repeat("r", 2000)})[:len(room[i].Props)]
	}
	before := copied(room)
	l := room[:len(room)-1]
	isTold(t, l)
	if !sameTree(room, before) {
		t.Errorf("the list is now %+v", room)
	}
	for i := range room {
		if p := room[i].Props[:len(room[i].Props)+1]; p[len(p)-1].Name != "ROOM" {
			t.Errorf("the room behind the props of %d is now %+v", i, p)
		}
	}
	for i := range l {
		if len(l[i].Props) == 0 {
			l[i].Props = nil
		}
	}
	isTold(t, l)
}

// R3: what is handed out is new each time, and no two lists of it share memory.
func TestHandedOut(t *testing.T) {
	s := wantBlob(bushy())
	l, _ := blob.Decode(s)
	for i := range l {
		whole := l[i].Props[:cap(l[i].Props)]
		for j := range whole {
			whole[j] = api.Prop{Name: fmt.Sprint("written ", i), Value: "w"}
		}
		for k := range l {
			for _, p := range l[k].Props {
				if k > i && strings.HasPrefix(p.Name, "written") {
					t.Fatalf("the props of %d show what was written into those of %d", k, i)
				}
			}
		}
	}
	clear(l[:cap(l)])
	isTold(t, bushy())
	names, _ := blob.Strings(bushy())
	clear(names[:cap(names)])
	isTold(t, bushy())
}
