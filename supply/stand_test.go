package supply_test

import (
	"go/ast"
	"go/parser"
	"go/token"
	"math"
	"path/filepath"
	"reflect"
	"slices"
	"strconv"
	"strings"
	"testing"

	"reveille/api"
	"reveille/crystal"
	"reveille/start"
	"reveille/supply"
)

// atStart is what Table told ahead of all that the tests do.
var atStart = supply.Table()

// P9.5: when main begins the entries stand, and rise.
func TestWhatStands(t *testing.T) {
	if atStart != ruled() {
		t.Errorf("at the start: %v, want %v", atStart, ruled())
	}
	for i := 1; i < len(atStart); i++ {
		if atStart[i] <= atStart[i-1] {
			t.Errorf("the entry %d does not rise: %d %d", i, atStart[i-1], atStart[i])
		}
	}
}

// P9.5, R3: whatever was done in between, and whatever is written into what was handed out.
func TestNothingChangesIt(t *testing.T) {
	u := supply.Table()
	for i := range u {
		u[i] = -7
	}
	askAll([]int64{-1, 0, 1, 5, 23, 24, 800000}, []float64{-1, 0, 2.5, math.NaN()})
	if u = supply.Table(); u != atStart {
		t.Errorf("Table: %v, want %v", u, atStart)
	}
	for i, want := range atStart {
		if n, e := supply.Micro(i); n != want || e != api.OK {
			t.Errorf("Micro(%d): %d %d, want %d", i, n, e, want)
		}
	}
}

// askAll makes each call of each of the numbers.
func askAll(numbers []int64, slews []float64) {
	for _, a := range numbers {
		supply.Micro(int(a))
		supply.Volts(int(a))
		supply.Code(a)
		for _, b := range numbers {
			supply.First(within(a, b))
			supply.Meet([]supply.Window{within(a, b), within(b, a)})
			supply.Way(int(a), int(b))
			for _, slew := range slews {
				supply.Ramp(int(a), int(b), slew)
			}
		}
	}
}

// R1: each call ends, whatever it is handed.
func TestAnythingEnds(t *testing.T) {
	numbers := []int64{-2, -1, 0, 1, 2, 23, 24, 32767, 32768, 6250, 12500, 1 << 40, 1<<40 + 1, math.MaxInt64, math.MinInt64, math.MinInt64 + 1}
	askAll(numbers, append(oddSlews(), evenSlews()...))
	supply.Meet(make([]supply.Window, 1<<16))
}

// R3: cards are handed out in new memory, with the room behind their ends.
func TestCardsAreNew(t *testing.T) {
	old := supply.Cards()
	spoilt := supply.Cards()
	for i := range spoilt {
		texts := spoilt[i].Compat
		for k := range texts[:cap(texts)] {
			texts[:cap(texts)][k] = "spoilt"
		}
		if slices.ContainsFunc(spoilt[i+1:], func(c api.Card) bool { return slices.Contains(c.Compat, "spoilt") }) {
			t.Errorf("the texts of the card %d are shared", i)
		}
	}
	for i := range spoilt[:cap(spoilt)] {
		spoilt[:cap(spoilt)][i] = api.Card{Name: "spoilt"}
	}
	if !reflect.DeepEqual(old, chapterCards()) || !reflect.DeepEqual(supply.Cards(), chapterCards()) {
		t.Errorf("%v %v", old, supply.Cards())
	}
}

// R3: ways are handed out in new memory, with the room behind their ends.
func TestWaysAreNew(t *testing.T) {
	old, spoilt := wayOf(t, 7, 1), wayOf(t, 7, 1)
	for i := range spoilt[:cap(spoilt)] {
		spoilt[:cap(spoilt)][i] = -7
	}
	want := []int{7, 6, 5, 4, 3, 2, 1}
	if now := wayOf(t, 7, 1); !slices.Equal(old, want) || !slices.Equal(now, want) {
		t.Errorf("%v %v", old, now)
	}
}

// R3: windows are not changed, and what stands behind their end is not read.
func TestWindowsStay(t *testing.T) {
	all := []supply.Window{within(1, 5), within(3, 9), within(7, 8), within(5, 4)}
	l := slices.Clone(all)
	isMet(t, l[:0], within(0, supply.MaxMicro), api.OK)
	isMet(t, l[:2], within(3, 5), api.OK)
	isMet(t, l[:3], within(0, 0), api.ErrNone)
	isMet(t, l, within(0, 0), api.ErrArg)
	if !slices.Equal(l, all) {
		t.Error("the windows have changed", l)
	}
}

// P9.5: the array is what a start-up would come to that makes crystal and supply as their chapters say.
func TestWhatStartSays(t *testing.T) {
	add := func(at int, by int64) []start.Step {
		return []start.Step{{Do: start.Add, Name: "table", At: at, By: by}}
	}
	p := start.Plan{{
		Path:  "crystal",
		Vars:  []start.Var{{Name: "table", Len: 32, Expr: start.Expr{Base: 1000000, Step: 1000000}}},
		Inits: [][]start.Step{add(0, -967232), add(31, 68000000)},
	}, {
		Path:    "supply",
		Imports: []string{"crystal"},
		Vars:    []start.Var{{Name: "table", Len: 24, Expr: start.Expr{Base: 300000, Step: 12500, Reads: []start.Read{{Pack: "crystal", Name: "table", Factor: 1}}}}},
		Inits:   [][]start.Step{add(0, 467232), add(23, 412500)},
	}}
	rates, rails := crystal.Table(), supply.Table()
	want := []start.Value{{Pack: "crystal", Name: "table", Nums: rates[:]}, {Pack: "supply", Name: "table", Nums: rails[:]}}
	for range 2 {
		run, e := start.Run(p)
		lazy, f := start.Lazy(p)
		if e != api.OK || f != api.OK || !reflect.DeepEqual(run.Values, want) || !reflect.DeepEqual(lazy, want) {
			t.Errorf("%v %d %v %d, want %v", run.Values, e, lazy, f, want)
		}
		slices.Reverse(p)
	}
}

// sources are the package's files, but for its tests.
func sources(t *testing.T) []*ast.File {
	names, err := filepath.Glob("*.go")
	if err != nil {
		t.Fatal(err)
	}
	var all []*ast.File
	for _, name := range names {
		if strings.HasSuffix(name, "_test.go") {
			continue
		}
		f, err := parser.ParseFile(token.NewFileSet(), name, nil, 0)
		if err != nil {
			t.Fatal(err)
		}
		all = append(all, f)
	}
	return all
}

// S1: one variable at package level, an array that is a literal of numbers, and no init function.
func TestOneVariable(t *testing.T) {
	var vars []*ast.ValueSpec
	for _, file := range sources(t) {
		for _, d := range file.Decls {
			if f, ok := d.(*ast.FuncDecl); ok && f.Recv == nil && f.Name.Name == "init" {
				t.Error("an init function")
			}
			if g, ok := d.(*ast.GenDecl); ok && g.Tok == token.VAR {
				for _, s := range g.Specs {
					vars = append(vars, s.(*ast.ValueSpec))
				}
			}
		}
	}
	if len(vars) != 1 || len(vars[0].Names) != 1 || len(vars[0].Values) != 1 {
		t.Fatal("not one variable:", len(vars))
	}
	isTable(t, vars[0].Values[0])
}

// S2: of the project it imports api, card and crystal, and nothing else.
func TestImports(t *testing.T) {
	allowed := []string{"reveille/api", "reveille/card", "reveille/crystal"}
	for _, file := range sources(t) {
		for _, im := range file.Imports {
			path, err := strconv.Unquote(im.Path.Value)
			if err != nil || strings.HasPrefix(path, "reveille/") && !slices.Contains(allowed, path) {
				t.Error("imports", im.Path.Value)
			}
		}
	}
}

// isTable asks whether an expression is a literal of as many numbers as there are rails.
func isTable(t *testing.T, x ast.Expr) {
	t.Helper()
	l, ok := x.(*ast.CompositeLit)
	if !ok || len(l.Elts) != supply.Rails {
		t.Fatalf("no literal of %d numbers", supply.Rails)
	}
	if a, ok := l.Type.(*ast.ArrayType); !ok || a.Len == nil {
		t.Error("no array")
	}
	for i, e := range l.Elts {
		if n, ok := e.(*ast.BasicLit); !ok || n.Kind != token.INT {
			t.Errorf("the entry %d is no number that is written out", i)
		}
	}
}
