package bus_test

import (
	"go/ast"
	"go/parser"
	"go/token"
	"math"
	"path/filepath"
	"reflect"
	"slices"
	"strconv"
	"strings"
	"testing"

	"reveille/api"
	"reveille/bus"
	"reveille/crystal"
	"reveille/start"
	"reveille/supply"
)

// atStart is what Table told ahead of all that the tests do.
var atStart = bus.Table()

// P10.5: when main begins the entries are what the rule makes of crystal's and supply's.
func TestWhatStands(t *testing.T) {
	if atStart != ruled() {
		t.Errorf("at the start: %v, want %v", atStart, ruled())
	}
}

// P10.1, R3: nothing changes it, whatever was done in between, and whatever is written into what was handed out.
func TestNothingChangesIt(t *testing.T) {
	u := bus.Table()
	for i := range u {
		u[i] = -7
	}
	askAll([]int64{-1, 0, 1, 5, 19, 20, 300000000})
	if u = bus.Table(); u != atStart {
		t.Errorf("Table: %v, want %v", u, atStart)
	}
	for i, want := range atStart {
		isBegin(t, i, want, api.OK)
	}
}

// askAll makes each call of each of the numbers.
func askAll(numbers []int64) {
	for _, a := range numbers {
		bus.Begin(int(a))
		bus.Which(a)
		for _, b := range numbers {
			bus.Shares(a, []int64{b, a})
			bus.Turns([]int64{a, b}, int(b))
			bus.Order([]int{int(a), int(b)}, a < b)
			for _, c := range numbers {
				bus.Slot(int(a), b, c)
				bus.Shares(a, []int64{b, c, c})
				bus.Turns([]int64{b, c, b}, int(a))
			}
		}
	}
}

// R1: each call ends, whatever it is handed.
func TestAnythingEnds(t *testing.T) {
	askAll([]int64{-2, -1, 0, 1, 2, 19, 20, 4096, 4097, 1 << 32, most - 1, most, most + 1, 1 << 62, 1<<62 + 1, math.MaxInt64, math.MinInt64, math.MinInt64 + 1})
	bus.Shares(1<<62, make([]int64, 1<<16))
	bus.Turns(make([]int64, 1<<16), 4096)
	bus.Order(make([]int, 1<<16), true)
}

// R3: cards are handed out in new memory, with the room behind their ends.
func TestCardsAreNew(t *testing.T) {
	old := bus.Cards()
	spoilt := bus.Cards()
	for i := range spoilt {
		texts := spoilt[i].Compat
		for k := range texts[:cap(texts)] {
			texts[:cap(texts)][k] = "spoilt"
		}
		if slices.ContainsFunc(spoilt[i+1:], func(c api.Card) bool { return slices.Contains(c.Compat, "spoilt") }) {
			t.Errorf("the texts of the card %d are shared", i)
		}
	}
	for i := range spoilt[:cap(spoilt)] {
		spoilt[:cap(spoilt)][i] = api.Card{Name: "spoilt"}
	}
	if !reflect.DeepEqual(old, chapterCards()) || !reflect.DeepEqual(bus.Cards(), chapterCards()) {
		t.Errorf("%v %v", old, bus.Cards())
	}
}

// spoil writes into a list and the room behind its end.
func spoil[T int | int64](l []T) {
	all := l[:cap(l)]
	for i := range all {
		all[i] = -7
	}
}

// R3: lists are handed out in new memory, with the room behind their ends; what was handed in is none of it.
func TestListsAreNew(t *testing.T) {
	weights, buses := []int64{2, 1, 0, 5}, []int{3, 1, 2, 1}
	for range 2 {
		shares, _ := bus.Shares(7, weights)
		turns, _ := bus.Turns(weights, 4)
		up, _ := bus.Order(buses, false)
		same, _ := bus.Order([]int{1, 2, 3}, false)
		spoil(shares)
		isShared(t, 7, weights, []int64{2, 1, 0, 4}, api.OK)
		spoil(turns)
		isTurns(t, weights, 4, []int{3, 0, 3, 1}, api.OK)
		spoil(up)
		isOrder(t, buses, false, []int{1, 1, 2, 3}, api.OK)
		if !slices.Equal(same, []int{1, 2, 3}) {
			t.Error("a list is shared:", same)
		}
	}
	if !slices.Equal(weights, []int64{2, 1, 0, 5}) || !slices.Equal(buses, []int{3, 1, 2, 1}) {
		t.Error("the lists have changed:", weights, buses)
	}
}

// R3: a list that is in order already is not handed back itself, and an empty one has no room of another.
func TestOrderIsNew(t *testing.T) {
	buses := []int{1, 2, 3, 3}
	for _, down := range []bool{false, true} {
		for n := range len(buses) + 1 {
			line, _ := bus.Order(buses[:n], down)
			spoil(line)
		}
	}
	if !slices.Equal(buses, []int{1, 2, 3, 3}) {
		t.Error("the list is handed back:", buses)
	}
}

// R3: what stands behind a list's end is not read, and nothing of it is changed.
func TestListsStay(t *testing.T) {
	all := []int64{2, 1, -1, most, math.MinInt64}
	weights := slices.Clone(all)
	isShared(t, 7, weights[:2], []int64{5, 2}, api.OK)
	isTurns(t, weights[:2], 6, []int{0, 1, 0, 0, 1, 0}, api.OK)
	isShared(t, 7, weights[:0], nil, api.ErrArg)
	isShared(t, 7, weights[:3], nil, api.ErrArg)
	long := repeated(1, 66)
	isShared(t, 64, long[:64], repeated(1, 64), api.OK)
	isShared(t, 64, long[:65], nil, api.ErrArg)
	places := []int{3, 1, 2, 20, -1}
	buses := slices.Clone(places)
	isOrder(t, buses[:3], false, []int{1, 2, 3}, api.OK)
	isOrder(t, buses[:3], true, []int{3, 2, 1}, api.OK)
	isOrder(t, buses[:0], true, nil, api.OK)
	isOrder(t, buses, false, nil, api.ErrArg)
	if !slices.Equal(weights, all) || !slices.Equal(buses, places) || !slices.Equal(long, repeated(1, 66)) {
		t.Error("the lists have changed:", weights, buses, long)
	}
}

// threeFamilies are the first three packages of the plan of chapter 13.
func threeFamilies() start.Plan {
	add := func(at int, by int64) []start.Step {
		return []start.Step{{Do: start.Add, Name: "table", At: at, By: by}}
	}
	read := func(pack string, factor int64) start.Read {
		return start.Read{Pack: pack, Name: "table", Factor: factor}
	}
	table := func(n int, base, step int64, reads ...start.Read) []start.Var {
		return []start.Var{{Name: "table", Len: n, Expr: start.Expr{Base: base, Step: step, Reads: reads}}}
	}
	gain := []start.Step{{Do: start.Gain, Name: "table", At: 19, Read: read("crystal", 2)}}
	return start.Plan{
		{Path: "crystal", Vars: table(32, 1000000, 1000000), Inits: [][]start.Step{add(0, -967232), add(31, 68000000)}},
		{Path: "supply", Imports: []string{"crystal"}, Vars: table(24, 300000, 12500, read("crystal", 1)), Inits: [][]start.Step{add(0, 467232), add(23, 412500)}},
		{Path: "bus", Imports: []string{"crystal", "supply"}, Vars: table(20, 268435456, 65536, read("crystal", 1), read("supply", 4)), Inits: [][]start.Step{add(0, 4096), gain}},
	}
}

// P10.5: the array is what start says of the plan of the three families, however they are listed.
func TestWhatStartSays(t *testing.T) {
	rates, rails, lines := crystal.Table(), supply.Table(), bus.Table()
	want := []start.Value{{Pack: "bus", Name: "table", Nums: lines[:]}, {Pack: "crystal", Name: "table", Nums: rates[:]}, {Pack: "supply", Name: "table", Nums: rails[:]}}
	for _, order := range [][3]int{{0, 1, 2}, {0, 2, 1}, {1, 0, 2}, {1, 2, 0}, {2, 0, 1}, {2, 1, 0}} {
		p := start.Plan{}
		for _, i := range order {
			p = append(p, threeFamilies()[i])
		}
		run, e := start.Run(p)
		lazy, f := start.Lazy(p)
		if e != api.OK || f != api.OK || !reflect.DeepEqual(run.Values, want) || !reflect.DeepEqual(lazy, want) {
			t.Errorf("%v %d %v %d, want %v", run.Values, e, lazy, f, want)
		}
	}
}

// S2: the three begin in the order crystal, supply, bus.
func TestWhoBegins(t *testing.T) {
	order, e := start.Order(threeFamilies())
	var packs []string
	for _, s := range order {
		packs = append(packs, s.Pack)
	}
	if packs = slices.Compact(packs); e != api.OK || !slices.Equal(packs, []string{"crystal", "supply", "bus"}) {
		t.Errorf("%v %d", packs, e)
	}
}

// sources are the package's files, but for its tests.
func sources(t *testing.T) []*ast.File {
	names, err := filepath.Glob("*.go")
	if err != nil {
		t.Fatal(err)
	}
	var all []*ast.File
	for _, name := range names {
		if strings.HasSuffix(name, "_test.go") {
			continue
		}
		f, err := parser.ParseFile(token.NewFileSet(), name, nil, 0)
		if err != nil {
			t.Fatal(err)
		}
		all = append(all, f)
	}
	return all
}

// S1: one variable at package level, an array that is a literal of numbers, and no init function.
func TestOneVariable(t *testing.T) {
	var vars []*ast.ValueSpec
	for _, file := range sources(t) {
		for _, d := range file.Decls {
			if f, ok := d.(*ast.FuncDecl); ok && f.Recv == nil && f.Name.Name == "init" {
				t.Error("an init function")
			}
			if g, ok := d.(*ast.GenDecl); ok && g.Tok == token.VAR {
				for _, s := range g.Specs {
					vars = append(vars, s.(*ast.ValueSpec))
				}
			}
		}
	}
	if len(vars) != 1 || len(vars[0].Names) != 1 || len(vars[0].Values) != 1 {
		t.Fatal("not one variable:", len(vars))
	}
	isTable(t, vars[0].Values[0])
}

// S2: of the project it imports api, card, crystal and supply, and nothing else.
func TestImports(t *testing.T) {
	allowed := []string{"reveille/api", "reveille/card", "reveille/crystal", "reveille/supply"}
	for _, file := range sources(t) {
		for _, im := range file.Imports {
			path, err := strconv.Unquote(im.Path.Value)
			if err != nil || strings.HasPrefix(path, "reveille/") && !slices.Contains(allowed, path) {
				t.Error("imports", im.Path.Value)
			}
		}
	}
}

// isTable asks whether an expression is a literal of as many numbers as there are buses.
func isTable(t *testing.T, x ast.Expr) {
	t.Helper()
	l, ok := x.(*ast.CompositeLit)
	if !ok || len(l.Elts) != bus.Lines {
		t.Fatalf("no literal of %d numbers", bus.Lines)
	}
	if a, ok := l.Type.(*ast.ArrayType); !ok || a.Len == nil {
		t.Error("no array")
	}
	for i, e := range l.Elts {
		if n, ok := e.(*ast.BasicLit); !ok || n.Kind != token.INT {
			t.Errorf("the entry %d is no number that is written out", i)
		}
	}
}
