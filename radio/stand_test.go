package radio_test

import (
	"go/ast"
	"go/parser"
	"go/token"
	"math"
	"path/filepath"
	"reflect"
	"slices"
	"strconv"
	"strings"
	"testing"

	"reveille/api"
	"reveille/bus"
	"reveille/crystal"
	"reveille/radio"
	"reveille/sensor"
	"reveille/start"
	"reveille/supply"
)

// atStart is what Table told ahead of all that the tests do.
var atStart = radio.Table()

// P12.5: when main begins the entries are what the rule makes of bus's and sensor's; those from 0 to 15 rise, those behind them begin lower again.
func TestWhatStands(t *testing.T) {
	if atStart != ruled() || atStart[0] != 432920000 {
		t.Errorf("at the start: %v, want %v", atStart, ruled())
	}
	for i := 1; i <= 15; i++ {
		if atStart[i] <= atStart[i-1] {
			t.Errorf("the entry %d does not rise: %d %d", i, atStart[i-1], atStart[i])
		}
	}
}

// P12.5, R3: nothing changes it, whatever was done in between, and whatever is written into what was handed out.
func TestNothingChangesIt(t *testing.T) {
	u := radio.Table()
	for i := range u {
		u[i] = -7
	}
	askAll([]int64{-1, 0, 1, 5, 19, 20, 4096, 432920000, 518134032})
	if u = radio.Table(); u != atStart {
		t.Errorf("Table: %v, want %v", u, atStart)
	}
	for i, want := range atStart {
		isHertz(t, i, want, api.OK)
	}
}

// askAll makes each call of each of the numbers.
func askAll(numbers []int64) {
	for _, a := range numbers {
		radio.Hertz(int(a))
		radio.Near(a)
		for _, b := range numbers {
			z := complex(float64(a), math.Float64frombits(uint64(b)))
			radio.Hops(uint64(a), int(b))
			radio.Shift(int(a), float64(b))
			radio.Shift(int(a), math.Float64frombits(uint64(b)))
			radio.Mix([]complex128{z, z, complex(1, float64(b))})
			radio.Power(z)
			radio.Turned(z, int(a))
			radio.Strong([]int8{int8(a), int8(b)})
		}
	}
}

// R1: each call ends, whatever it is handed.
func TestAnythingEnds(t *testing.T) {
	askAll([]int64{-1, 0, 1, 19, 20, 4096, 4097, 299792457, 299792458, -299792458, 1 << 32, 1 << 62, math.MaxInt64, math.MinInt64, math.MinInt64 + 1, 0x7FF << 52, -1 << 52})
	radio.Mix(make([]complex128, 1<<16))
	radio.Strong(make([]int8, 1<<16))
	radio.Mix(nil)
	radio.Strong(nil)
}

// R3: cards are handed out in new memory, with the room behind their ends.
func TestCardsAreNew(t *testing.T) {
	old := radio.Cards()
	spoilt := radio.Cards()
	for i := range spoilt {
		texts := spoilt[i].Compat
		for k := range texts[:cap(texts)] {
			texts[:cap(texts)][k] = "spoilt"
		}
		if slices.ContainsFunc(spoilt[i+1:], func(c api.Card) bool { return slices.Contains(c.Compat, "spoilt") }) {
			t.Errorf("the texts of the card %d are shared", i)
		}
	}
	for i := range spoilt[:cap(spoilt)] {
		spoilt[:cap(spoilt)][i] = api.Card{Name: "spoilt"}
	}
	if !reflect.DeepEqual(old, chapterCards()) || !reflect.DeepEqual(radio.Cards(), chapterCards()) {
		t.Errorf("%v %v", old, radio.Cards())
	}
}

// R3: hops are handed out in new memory, with the room behind their ends; what came of one seed is not seen by the next call.
func TestHopsAreNew(t *testing.T) {
	for _, n := range []int{0, 1, 19, 20, 21, 60, 4096} {
		want, _ := slowHops(7, n)
		old, _ := radio.Hops(7, n)
		spoilt, _ := radio.Hops(7, n)
		for i := range spoilt[:cap(spoilt)] {
			spoilt[:cap(spoilt)][i] = -7
		}
		isHops(t, 7, n, want, api.OK)
		if !slices.Equal(old, want) {
			t.Errorf("the hops are shared: %v, want %v", old, want)
		}
	}
}

// R3: a list stays as it was, and what stands behind its end is neither read nor changed.
func TestListsStay(t *testing.T) {
	signals := []complex128{1 + 2i, 3 - 1i, 7i, complex(math.NaN(), 0)}
	readings := []int8{-70, -30, -30, 5, 127}
	isMix(t, signals[:2], 5+5i)
	isMix(t, signals[:0], 1)
	isMix(t, signals[2:3], 7i)
	isStrong(t, readings[:3], -30, 1)
	isStrong(t, readings[:0], -128, -1)
	isStrong(t, readings[2:4], 5, 1)
	for i, want := range []complex128{1 + 2i, 3 - 1i, 7i, complex(math.NaN(), 0)} {
		if !sameSignal(signals[i], want) {
			t.Error("the signals have changed:", signals)
		}
	}
	if !slices.Equal(readings, []int8{-70, -30, -30, 5, 127}) {
		t.Error("the readings have changed:", readings)
	}
}

// fiveFamilies are the families' packages of the plan of chapter 13.
func fiveFamilies() start.Plan {
	add := func(at int, by int64) []start.Step {
		return []start.Step{{Do: start.Add, Name: "table", At: at, By: by}}
	}
	read := func(pack string, factor int64) start.Read {
		return start.Read{Pack: pack, Name: "table", Factor: factor}
	}
	table := func(n int, base, step int64, reads ...start.Read) []start.Var {
		return []start.Var{{Name: "table", Len: n, Expr: start.Expr{Base: base, Step: step, Reads: reads}}}
	}
	gain := []start.Step{{Do: start.Gain, Name: "table", At: 19, Read: read("crystal", 2)}}
	return start.Plan{
		{Path: "crystal", Vars: table(32, 1000000, 1000000), Inits: [][]start.Step{add(0, -967232), add(31, 68000000)}},
		{Path: "supply", Imports: []string{"crystal"}, Vars: table(24, 300000, 12500, read("crystal", 1)), Inits: [][]start.Step{add(0, 467232), add(23, 412500)}},
		{Path: "bus", Imports: []string{"crystal", "supply"}, Vars: table(20, 268435456, 65536, read("crystal", 1), read("supply", 4)), Inits: [][]start.Step{add(0, 4096), gain}},
		{Path: "sensor", Imports: []string{"supply", "bus"}, Vars: table(16, -200000, 10000, read("supply", 1)), Inits: [][]start.Step{add(0, 25000), add(15, 500000)}},
		{Path: "radio", Imports: []string{"bus", "sensor"}, Vars: table(20, 160000000, 25000, read("bus", 1), read("sensor", 2)), Inits: [][]start.Step{add(0, -2320), add(19, -30640)}},
	}
}

// P12.5: the array is what start says of the plan of the five families, wherever radio stands in it.
func TestWhatStartSays(t *testing.T) {
	rates, rails, lines, points, bands := crystal.Table(), supply.Table(), bus.Table(), sensor.Table(), radio.Table()
	want := []start.Value{
		{Pack: "bus", Name: "table", Nums: lines[:]}, {Pack: "crystal", Name: "table", Nums: rates[:]}, {Pack: "radio", Name: "table", Nums: bands[:]},
		{Pack: "sensor", Name: "table", Nums: points[:]}, {Pack: "supply", Name: "table", Nums: rails[:]},
	}
	for at := range 5 {
		p := fiveFamilies()
		p = slices.Insert(p[:4:4], at, p[4])
		run, e := start.Run(p)
		lazy, f := start.Lazy(p)
		if e != api.OK || f != api.OK || !reflect.DeepEqual(run.Values, want) || !reflect.DeepEqual(lazy, want) {
			t.Errorf("%v %d %v %d, want %v", run.Values, e, lazy, f, want)
		}
	}
}

// S2: the five begin in the order crystal, supply, bus, sensor, radio.
func TestWhoBegins(t *testing.T) {
	order, e := start.Order(fiveFamilies())
	var packs []string
	for _, s := range order {
		packs = append(packs, s.Pack)
	}
	if packs = slices.Compact(packs); e != api.OK || !slices.Equal(packs, []string{"crystal", "supply", "bus", "sensor", "radio"}) {
		t.Errorf("%v %d", packs, e)
	}
}

// sources are the package's files, but for its tests.
func sources(t *testing.T) []*ast.File {
	names, err := filepath.Glob("*.go")
	if err != nil {
		t.Fatal(err)
	}
	var all []*ast.File
	for _, name := range names {
		if strings.HasSuffix(name, "_test.go") {
			continue
		}
		f, err := parser.ParseFile(token.NewFileSet(), name, nil, 0)
		if err != nil {
			t.Fatal(err)
		}
		all = append(all, f)
	}
	return all
}

// S1: one variable at package level, an array that is a literal of numbers, and no init function.
func TestOneVariable(t *testing.T) {
	var vars []*ast.ValueSpec
	for _, file := range sources(t) {
		for _, d := range file.Decls {
			if f, ok := d.(*ast.FuncDecl); ok && f.Recv == nil && f.Name.Name == "init" {
				t.Error("an init function")
			}
			if g, ok := d.(*ast.GenDecl); ok && g.Tok == token.VAR {
				for _, s := range g.Specs {
					vars = append(vars, s.(*ast.ValueSpec))
				}
			}
		}
	}
	if len(vars) != 1 || len(vars[0].Names) != 1 || len(vars[0].Values) != 1 {
		t.Fatal("not one variable:", len(vars))
	}
	isTable(t, vars[0].Values[0])
}

// S2: of the project it imports api, card, bus and sensor, and nothing else.
func TestImports(t *testing.T) {
	allowed := []string{"reveille/api", "reveille/card", "reveille/bus", "reveille/sensor"}
	for _, file := range sources(t) {
		for _, im := range file.Imports {
			path, err := strconv.Unquote(im.Path.Value)
			if err != nil || strings.HasPrefix(path, "reveille/") && !slices.Contains(allowed, path) {
				t.Error("imports", im.Path.Value)
			}
		}
	}
}

// isTable asks whether an expression is a literal of as many numbers as there are bands.
func isTable(t *testing.T, x ast.Expr) {
	t.Helper()
	l, ok := x.(*ast.CompositeLit)
	if !ok || len(l.Elts) != radio.Bands {
		t.Fatalf("no literal of %d numbers", radio.Bands)
	}
	if a, ok := l.Type.(*ast.ArrayType); !ok || a.Len == nil {
		t.Error("no array")
	}
	for i, e := range l.Elts {
		if n, ok := e.(*ast.BasicLit); !ok || n.Kind != token.INT {
			t.Errorf("the entry %d is no number that is written out", i)
		}
	}
}
