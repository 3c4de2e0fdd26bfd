package sensor_test

import (
	"go/ast"
	"go/parser"
	"go/token"
	"math"
	"path/filepath"
	"reflect"
	"slices"
	"strconv"
	"strings"
	"testing"

	"reveille/api"
	"reveille/bus"
	"reveille/crystal"
	"reveille/sensor"
	"reveille/start"
	"reveille/supply"
)

// atStart is what Table told ahead of all that the tests do.
var atStart = sensor.Table()

// P11.3: when main begins the entries are what the rule makes of supply's, and rise.
func TestWhatStands(t *testing.T) {
	if atStart != ruled() {
		t.Errorf("at the start: %v, want %v", atStart, ruled())
	}
	for i := 1; i < len(atStart); i++ {
		if atStart[i] <= atStart[i-1] {
			t.Errorf("the entry %d does not rise: %d %d", i, atStart[i-1], atStart[i])
		}
	}
}

// P11.3, R3: nothing changes it, whatever was done in between, and whatever is written into what was handed out.
func TestNothingChangesIt(t *testing.T) {
	u := sensor.Table()
	for i := range u {
		u[i] = -7
	}
	askAll([]int64{-1, 0, 1, 5, 15, 16, 625000, 16937500})
	if u = sensor.Table(); u != atStart {
		t.Errorf("Table: %v, want %v", u, atStart)
	}
	for i, want := range atStart {
		isMicro(t, i, want, api.OK)
	}
}

// askAll makes each call of each of the numbers.
func askAll(numbers []int64) {
	for _, a := range numbers {
		sensor.Micro(int(a))
		sensor.Milli(a)
		sensor.Degrees(a)
		sensor.Kelvin(a)
		sensor.Raw(a)
		for _, b := range numbers {
			sensor.Zone([]int8{int8(a)}, int8(b))
			sensor.Zone([]int8{int8(a), int8(b)}, int8(a))
			sensor.Median([]int8{int8(a), int8(b), int8(a)})
		}
	}
}

// R1: each call ends, whatever it is handed.
func TestAnythingEnds(t *testing.T) {
	askAll([]int64{-129, -128, -1, 0, 1, 15, 16, 127, 128, 624999, 625000, 16937500, 16937501, 1 << 32, 1 << 62, math.MaxInt64, math.MinInt64, math.MinInt64 + 1})
	sensor.Zone(make([]int8, 1<<16), 5)
	sensor.Median(make([]int8, 1<<16))
	sensor.Zone(nil, 0)
	sensor.Median(nil)
}

// R3: cards are handed out in new memory, with the room behind their ends.
func TestCardsAreNew(t *testing.T) {
	old := sensor.Cards()
	spoilt := sensor.Cards()
	for i := range spoilt {
		texts := spoilt[i].Compat
		for k := range texts[:cap(texts)] {
			texts[:cap(texts)][k] = "spoilt"
		}
		if slices.ContainsFunc(spoilt[i+1:], func(c api.Card) bool { return slices.Contains(c.Compat, "spoilt") }) {
			t.Errorf("the texts of the card %d are shared", i)
		}
	}
	for i := range spoilt[:cap(spoilt)] {
		spoilt[:cap(spoilt)][i] = api.Card{Name: "spoilt"}
	}
	if !reflect.DeepEqual(old, chapterCards()) || !reflect.DeepEqual(sensor.Cards(), chapterCards()) {
		t.Errorf("%v %v", old, sensor.Cards())
	}
}

// R3: a list stays as it was, its order too, and what stands behind its end is neither read nor changed.
func TestListsStay(t *testing.T) {
	all := []int8{10, 20, 30, 5, 127, -128}
	marks := slices.Clone(all)
	isZone(t, marks[:3], 20, 2, api.OK)
	isZone(t, marks[:3], 127, 3, api.OK)
	isZone(t, marks[:0], 127, 0, api.OK)
	isZone(t, marks[:4], 20, 0, api.ErrArg)
	isMedian(t, marks[:4], 10, api.OK)
	isMedian(t, marks[:0], 0, api.ErrArg)
	isMedian(t, marks, 10, api.OK)
	isMedian(t, marks[3:], 5, api.OK)
	long := slices.Repeat([]int8{5}, 4098)
	long[4096], long[4097] = -9, 9
	isMedian(t, long[:4096], 5, api.OK)
	isMedian(t, long[:4097], 0, api.ErrArg)
	if !slices.Equal(marks, all) || long[4096] != -9 || long[4097] != 9 {
		t.Error("the lists have changed:", marks, long[4096:])
	}
}

// fourFamilies are the first four packages of the plan of chapter 13.
func fourFamilies() start.Plan {
	add := func(at int, by int64) []start.Step {
		return []start.Step{{Do: start.Add, Name: "table", At: at, By: by}}
	}
	read := func(pack string, factor int64) start.Read {
		return start.Read{Pack: pack, Name: "table", Factor: factor}
	}
	table := func(n int, base, step int64, reads ...start.Read) []start.Var {
		return []start.Var{{Name: "table", Len: n, Expr: start.Expr{Base: base, Step: step, Reads: reads}}}
	}
	gain := []start.Step{{Do: start.Gain, Name: "table", At: 19, Read: read("crystal", 2)}}
	return start.Plan{
		{Path: "crystal", Vars: table(32, 1000000, 1000000), Inits: [][]start.Step{add(0, -967232), add(31, 68000000)}},
		{Path: "supply", Imports: []string{"crystal"}, Vars: table(24, 300000, 12500, read("crystal", 1)), Inits: [][]start.Step{add(0, 467232), add(23, 412500)}},
		{Path: "bus", Imports: []string{"crystal", "supply"}, Vars: table(20, 268435456, 65536, read("crystal", 1), read("supply", 4)), Inits: [][]start.Step{add(0, 4096), gain}},
		{Path: "sensor", Imports: []string{"supply", "bus"}, Vars: table(16, -200000, 10000, read("supply", 1)), Inits: [][]start.Step{add(0, 25000), add(15, 500000)}},
	}
}

// orders are all orders of the numbers below n.
func orders(n int) [][]int {
	if n == 0 {
		return [][]int{nil}
	}
	var all [][]int
	for _, order := range orders(n - 1) {
		for at := range n {
			all = append(all, slices.Insert(slices.Clone(order), at, n-1))
		}
	}
	return all
}

// P11.3: the array is what start says of the plan of the four families, however they are listed.
func TestWhatStartSays(t *testing.T) {
	rates, rails, lines, points := crystal.Table(), supply.Table(), bus.Table(), sensor.Table()
	want := []start.Value{
		{Pack: "bus", Name: "table", Nums: lines[:]}, {Pack: "crystal", Name: "table", Nums: rates[:]},
		{Pack: "sensor", Name: "table", Nums: points[:]}, {Pack: "supply", Name: "table", Nums: rails[:]},
	}
	for _, order := range orders(4) {
		p := start.Plan{}
		for _, i := range order {
			p = append(p, fourFamilies()[i])
		}
		run, e := start.Run(p)
		lazy, f := start.Lazy(p)
		if e != api.OK || f != api.OK || !reflect.DeepEqual(run.Values, want) || !reflect.DeepEqual(lazy, want) {
			t.Errorf("%v %d %v %d, want %v", run.Values, e, lazy, f, want)
		}
	}
}

// S2: the four begin in the order crystal, supply, bus, sensor.
func TestWhoBegins(t *testing.T) {
	order, e := start.Order(fourFamilies())
	var packs []string
	for _, s := range order {
		packs = append(packs, s.Pack)
	}
	if packs = slices.Compact(packs); e != api.OK || !slices.Equal(packs, []string{"crystal", "supply", "bus", "sensor"}) {
		t.Errorf("%v %d", packs, e)
	}
}

// sources are the package's files, but for its tests.
func sources(t *testing.T) []*ast.File {
	names, err := filepath.Glob("*.go")
	if err != nil {
		t.Fatal(err)
	}
	var all []*ast.File
	for _, name := range names {
		if strings.HasSuffix(name, "_test.go") {
			continue
		}
		f, err := parser.ParseFile(token.NewFileSet(), name, nil, 0)
		if err != nil {
			t.Fatal(err)
		}
		all = append(all, f)
	}
	return all
}

// S1: one variable at package level, an array that is a literal of numbers, and no init function.
func TestOneVariable(t *testing.T) {
	var vars []*ast.ValueSpec
	for _, file := range sources(t) {
		for _, d := range file.Decls {
			if f, ok := d.(*ast.FuncDecl); ok && f.Recv == nil && f.Name.Name == "init" {
				t.Error("an init function")
			}
			if g, ok := d.(*ast.GenDecl); ok && g.Tok == token.VAR {
				for _, s := range g.Specs {
					vars = append(vars, s.(*ast.ValueSpec))
				}
			}
		}
	}
	if len(vars) != 1 || len(vars[0].Names) != 1 || len(vars[0].Values) != 1 {
		t.Fatal("not one variable:", len(vars))
	}
	isTable(t, vars[0].Values[0])
}

// S2: of the project it imports api, card, supply and bus, and nothing else.
func TestImports(t *testing.T) {
	allowed := []string{"reveille/api", "reveille/card", "reveille/supply", "reveille/bus"}
	for _, file := range sources(t) {
		for _, im := range file.Imports {
			path, err := strconv.Unquote(im.Path.Value)
			if err != nil || strings.HasPrefix(path, "reveille/") && !slices.Contains(allowed, path) {
				t.Error("imports", im.Path.Value)
			}
		}
	}
}

// isTable asks whether an expression is a literal of as many numbers as there are points.
func isTable(t *testing.T, x ast.Expr) {
	t.Helper()
	l, ok := x.(*ast.CompositeLit)
	if !ok || len(l.Elts) != sensor.Points {
		t.Fatalf("no literal of %d numbers", sensor.Points)
	}
	if a, ok := l.Type.(*ast.ArrayType); !ok || a.Len == nil {
		t.Error("no array")
	}
	for i, e := range l.Elts {
		if n, ok := e.(*ast.BasicLit); !ok || n.Kind != token.INT {
			t.Errorf("the entry %d is no number that is written out", i)
		}
	}
}
