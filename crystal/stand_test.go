package crystal_test

import (
	"go/ast"
	"go/parser"
	"go/token"
	"path/filepath"
	"reflect"
	"slices"
	"strconv"
	"strings"
	"testing"

	"reveille/api"
	"reveille/crystal"
	"reveille/start"
)

// atStart is what Table told ahead of all that the tests do.
var atStart = crystal.Table()

// P8.3: when main begins the entries stand, and rise.
func TestWhatStands(t *testing.T) {
	if atStart != ruled() {
		t.Errorf("at the start: %v, want %v", atStart, ruled())
	}
	for i := 1; i < len(atStart); i++ {
		if atStart[i] <= atStart[i-1] {
			t.Errorf("the entry %d does not rise: %d %d", i, atStart[i-1], atStart[i])
		}
	}
}

// P8.3, R3: whatever was done in between, and whatever is written into what was handed out.
func TestNothingChangesIt(t *testing.T) {
	u := crystal.Table()
	for i := range u {
		u[i] = -7
	}
	for i := -2; i < 40; i++ {
		crystal.Rate(i)
		crystal.Period(i)
		crystal.Near(int64(i) * 1000000)
		crystal.Divider(int64(i)*65536, 3)
		crystal.Chain(int64(i), []int64{int64(i)})
	}
	if u = crystal.Table(); u != atStart {
		t.Errorf("Table: %v, want %v", u, atStart)
	}
	for i, want := range atStart {
		if n, e := crystal.Rate(i); n != want || e != api.OK {
			t.Errorf("Rate(%d): %d %d, want %d", i, n, e, want)
		}
	}
}

// R3: cards are handed out in new memory, with the room behind their ends.
func TestCardsAreNew(t *testing.T) {
	old := crystal.Cards()
	spoilt := crystal.Cards()
	for i := range spoilt {
		texts := spoilt[i].Compat
		for k := range texts[:cap(texts)] {
			texts[:cap(texts)][k] = "spoilt"
		}
		if slices.ContainsFunc(spoilt[i+1:], func(c api.Card) bool { return slices.Contains(c.Compat, "spoilt") }) {
			t.Errorf("the texts of the card %d are shared", i)
		}
	}
	for i := range spoilt[:cap(spoilt)] {
		spoilt[:cap(spoilt)][i] = api.Card{Name: "spoilt"}
	}
	if !reflect.DeepEqual(old, chapterCards()) || !reflect.DeepEqual(crystal.Cards(), chapterCards()) {
		t.Errorf("%v %v", old, crystal.Cards())
	}
}

// R3: a chain's dividers are not changed, and what stands behind their end is not read.
func TestDividersStay(t *testing.T) {
	by := []int64{4, 3, 0, -1}[:2]
	isChained(t, 100, by, 8, api.OK)
	isChained(t, 100, by[:0], 100, api.OK)
	long := repeated(1, 66)
	isChained(t, 100, long[:64], 100, api.OK)
	isChained(t, 100, long[:65], 0, api.ErrArg)
	if !slices.Equal(by[:4], []int64{4, 3, 0, -1}) || !slices.Equal(long, repeated(1, 66)) {
		t.Error("the dividers have changed", by[:4], long)
	}
}

// S5: the array is what a start-up would come to that makes it as the chapter says.
func TestWhatStartSays(t *testing.T) {
	add := func(at int, by int64) []start.Step {
		return []start.Step{{Do: start.Add, Name: "table", At: at, By: by}}
	}
	p := start.Plan{{
		Path:  "crystal",
		Vars:  []start.Var{{Name: "table", Len: 32, Expr: start.Expr{Base: 1000000, Step: 1000000}}},
		Inits: [][]start.Step{add(0, -967232), add(31, 68000000)},
	}}
	run, e := start.Run(p)
	lazy, f := start.Lazy(p)
	u := crystal.Table()
	want := []start.Value{{Pack: "crystal", Name: "table", Nums: u[:]}}
	if e != api.OK || f != api.OK || !reflect.DeepEqual(run.Values, want) || !reflect.DeepEqual(lazy, want) {
		t.Errorf("%v %d %v %d, want %v", run.Values, e, lazy, f, want)
	}
}

// sources are the package's files, but for its tests.
func sources(t *testing.T) []*ast.File {
	names, err := filepath.Glob("*.go")
	if err != nil {
		t.Fatal(err)
	}
	var all []*ast.File
	for _, name := range names {
		if strings.HasSuffix(name, "_test.go") {
			continue
		}
		f, err := parser.ParseFile(token.NewFileSet(), name, nil, 0)
		if err != nil {
			t.Fatal(err)
		}
		all = append(all, f)
	}
	return all
}

// S1: one variable at package level, an array that is a literal of numbers, and no init function.
func TestOneVariable(t *testing.T) {
	var vars []*ast.ValueSpec
	for _, file := range sources(t) {
		for _, d := range file.Decls {
			if f, ok := d.(*ast.FuncDecl); ok && f.Recv == nil && f.Name.Name == "init" {
				t.Error("an init function")
			}
			if g, ok := d.(*ast.GenDecl); ok && g.Tok == token.VAR {
				for _, s := range g.Specs {
					vars = append(vars, s.(*ast.ValueSpec))
				}
			}
		}
	}
	if len(vars) != 1 || len(vars[0].Names) != 1 || len(vars[0].Values) != 1 {
		t.Fatal("not one variable:", len(vars))
	}
	isTable(t, vars[0].Values[0])
}

// S2: of the project it imports api, and card if it wants.
func TestImports(t *testing.T) {
	for _, file := range sources(t) {
		for _, im := range file.Imports {
			path, err := strconv.Unquote(im.Path.Value)
			if err != nil || strings.HasPrefix(path, "reveille/") && path != "reveille/api" && path != "reveille/card" {
				t.Error("imports", im.Path.Value)
			}
		}
	}
}

// isTable asks whether an expression is a literal of as many numbers as there are rates.
func isTable(t *testing.T, x ast.Expr) {
	t.Helper()
	l, ok := x.(*ast.CompositeLit)
	if !ok || len(l.Elts) != crystal.Rates {
		t.Fatalf("no literal of %d numbers", crystal.Rates)
	}
	if a, ok := l.Type.(*ast.ArrayType); !ok || a.Len == nil {
		t.Error("no array")
	}
	for i, e := range l.Elts {
		if n, ok := e.(*ast.BasicLit); !ok || n.Kind != token.INT {
			t.Errorf("the entry %d is no number that is written out", i)
		}
	}
}
