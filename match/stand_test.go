package match_test

import (
	"go/ast"
	"go/parser"
	"go/token"
	"path/filepath"
	"reflect"
	"slices"
	"strconv"
	"strings"
	"testing"

	"reveille/api"
	"reveille/match"
	"reveille/roll"
)

// roomy is a copy of a list with spare room behind its end, in which something stands.
func roomy[T any](l []T, spare T) []T {
	return append(append([]T(nil), l...), spare, spare)[:len(l)]
}

// roomyCards and roomyTree are copies of cards and of a tree with such room in all depths; what stands in it would change the answers.
func roomyCards(l []api.Card) []api.Card {
	l = roomy(l, knows("#", 100, "acme,board", "x"))
	for i := range l {
		l[i].Compat = roomy(l[i].Compat, "acme,nobody")
	}
	return l
}

func roomyTree(l []api.Node) []api.Node {
	l = roomy(l, node(0, "spare", is("acme,adc")))
	for i := range l {
		l[i].Props = roomy(l[i].Props, api.Prop{Name: "compatible", Value: "acme,i2c\x00"})
	}
	return l
}

// whole is a list with the room behind its end.
func whole[T any](l []T) []T { return l[:cap(l)] }

// sameWhole says whether two lists of cards, or of nodes, are the same, with the room behind all ends.
func sameWhole(a, b given) bool {
	for i := range a.cards {
		if !slices.Equal(whole(a.cards[i].Compat)[:len(a.cards[i].Compat)+2], whole(b.cards[i].Compat)[:len(b.cards[i].Compat)+2]) {
			return false
		}
	}
	for i := range a.tree {
		if !slices.Equal(whole(a.tree[i].Props)[:len(a.tree[i].Props)+2], whole(b.tree[i].Props)[:len(b.tree[i].Props)+2]) {
			return false
		}
	}
	return reflect.DeepEqual(a.cards[:len(a.cards)+2], b.cards[:len(b.cards)+2]) && reflect.DeepEqual(a.tree[:len(a.tree)+2], b.tree[:len(b.tree)+2])
}

// R3: nothing of what is handed in is changed, and nothing behind its end is read.
func TestArgumentsStay(t *testing.T) {
	for _, g := range pairs() {
		room, want := given{roomyCards(g.cards), roomyTree(g.tree)}, given{roomyCards(g.cards), roomyTree(g.tree)}
		all, e := match.All(room.cards, room.tree)
		if !slices.Equal(all, wantAll(g)) || e != api.OK {
			t.Errorf("All: %v %d", all, e)
		}
		isTold(t, "Rank", room.cards, room.tree, wantRank(g))
		isTold(t, "Orphans", room.cards, room.tree, wantOrphans(g))
		isTold(t, "Idle", room.cards, room.tree, wantIdle(g))
		for i := range g.tree {
			match.One(room.cards, room.tree, i)
		}
		texts := roomy([]string{"nobody", "y"}, "x")
		isSlowFit(t, room.cards, texts)
		isSlowFit(t, room.cards, texts[:0])
		for _, c := range room.cards {
			match.Setting(c)
		}
		if !slices.Equal(texts[:4], []string{"nobody", "y", "x", "x"}) || !sameWhole(room, want) {
			t.Fatalf("an argument has changed: %v %q", room, texts)
		}
	}
}

// R3: no later answer shows what is written into an earlier one, or into what was handed in.
func TestAnswersAreNew(t *testing.T) {
	for range 2 {
		cards, tree := roll.Cards(), board()
		all, _ := match.All(cards, tree)
		lists := [][]int{places(t, "Rank", given{cards, tree}), places(t, "Orphans", given{cards, tree}), places(t, "Idle", given{cards, tree})}
		isTold(t, "Rank", roll.Cards(), board(), []int{6, 1, 5, 4, 2, 3})
		for i := range cards {
			cards[i].Compat[0] = "spoilt"
		}
		for i := range tree {
			for k := range tree[i].Props {
				tree[i].Props[k].Value = "spoilt"
			}
		}
		if !slices.Equal(lists[0], []int{6, 1, 5, 4, 2, 3}) || !slices.Equal(lists[1], []int{0, 11, 12, 13}) || len(lists[2]) != 18 {
			t.Errorf("what was handed out has changed: %v", lists)
		}
		for _, l := range lists {
			for i := range whole(l) {
				whole(l)[i] = -7
			}
		}
		for i := range whole(all) {
			whole(all)[i] = match.Match{Card: -7, Text: -7}
		}
		quirks := match.Quirks()
		for i := range whole(quirks) {
			whole(quirks)[i] = "spoilt"
		}
	}
	if !slices.Equal(match.Quirks(), []string{"slow", "half", "double", "odd"}) {
		t.Errorf("Quirks: %q", match.Quirks())
	}
}

// sources are the package's files, but for its tests.
func sources(t *testing.T) []*ast.File {
	t.Helper()
	names, err := filepath.Glob("*.go")
	if err != nil {
		t.Fatal(err)
	}
	var all []*ast.File
	for _, name := range names {
		if strings.HasSuffix(name, "_test.go") {
			continue
		}
		f, err := parser.ParseFile(token.NewFileSet(), name, nil, 0)
		if err != nil {
			t.Fatal(err)
		}
		all = append(all, f)
	}
	if len(all) == 0 {
		t.Fatal("no sources")
	}
	return all
}

// The package calls api, card, tree and roll, and no other one of the project.
func TestImports(t *testing.T) {
	for _, file := range sources(t) {
		for _, im := range file.Imports {
			path, err := strconv.Unquote(im.Path.Value)
			if err != nil {
				t.Fatal(err)
			}
			if within, ok := strings.CutPrefix(path, "reveille/"); ok && !slices.Contains([]string{"api", "card", "tree", "roll"}, within) {
				t.Error("imports", path)
			}
		}
	}
}

// S5, R2: no variable at package level, and no init function.
func TestNothingIsKept(t *testing.T) {
	for _, file := range sources(t) {
		for _, d := range file.Decls {
			if f, ok := d.(*ast.FuncDecl); ok && f.Recv == nil && f.Name.Name == "init" {
				t.Error("an init function")
			}
			if g, ok := d.(*ast.GenDecl); ok && g.Tok == token.VAR {
				t.Error("a variable at package level")
			}
		}
	}
}
