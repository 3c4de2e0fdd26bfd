package roll_test

import (
	"go/ast"
	"go/parser"
	"go/token"
	"path/filepath"
	"reflect"
	"slices"
	"strconv"
	"strings"
	"testing"

	"reveille/api"
	"reveille/roll"
	"reveille/start"
)

// answers are what all calls tell.
type answers struct {
	Cards, Refused []api.Card
	Families       []string
	Tables         [][]int64
	Found          []api.Card
	Of             [][]api.Card
	Ranks          [5][]string
	Entries        []int64
	Plan           start.Plan
}

// asked is what all calls tell now.
func asked() answers {
	a := answers{Cards: roll.Cards(), Refused: roll.Refused(), Families: roll.Families(), Ranks: roll.Ranks(), Plan: roll.Plan()}
	for _, family := range familyNames() {
		table, _ := roll.Table(family)
		of, _ := roll.Of(family)
		a.Tables, a.Of = append(a.Tables, table), append(a.Of, of)
	}
	for _, r := range chapterRows() {
		c, _ := roll.Find(r.name)
		n, _ := roll.Entry(r.name)
		a.Found, a.Entries = append(a.Found, c), append(a.Entries, n)
	}
	return a
}

// atStart is what all calls told ahead of all that the tests do.
var atStart = asked()

// lists are all lists within a value, the inner ones first.
func lists(v reflect.Value) []reflect.Value {
	var all []reflect.Value
	switch v.Kind() {
	case reflect.Struct:
		for i := range v.NumField() {
			all = append(all, lists(v.Field(i))...)
		}
	case reflect.Array, reflect.Slice:
		for i := range v.Len() {
			all = append(all, lists(v.Index(i))...)
		}
		if v.Kind() == reflect.Slice {
			all = append(all, v)
		}
	}
	return all
}

// spoil writes over all lists within an answer, with the room behind their ends.
func spoil(a any) {
	for _, l := range lists(reflect.ValueOf(a)) {
		for i := range l.Cap() {
			spoilOne(l.Slice(0, l.Cap()).Index(i))
		}
	}
}

func spoilOne(v reflect.Value) {
	switch v.Kind() {
	case reflect.String:
		v.SetString("spoilt")
	case reflect.Int64:
		v.SetInt(-7)
	default:
		v.SetZero()
	}
}

// P13.6, R3: roll tells what it told, whatever is written into what was handed out.
func TestNothingChangesIt(t *testing.T) {
	ahead := asked()
	for range 2 {
		spoil(asked())
		if got := asked(); !reflect.DeepEqual(got, atStart) {
			t.Fatalf("%v, want %v", got, atStart)
		}
	}
	run, _ := start.Run(roll.Plan())
	spoil(run)
	comesTo(t, roll.Plan())
	if !reflect.DeepEqual(ahead, atStart) {
		t.Errorf("what was handed out has changed: %v, want %v", ahead, atStart)
	}
	for i, c := range familyCards() {
		spoil(c)
		isOf(t, familyNames()[i], standing()[i], api.OK)
	}
}

// P13.6: what was spoilt is seen so in all depths: else the test ahead would tell nothing.
func TestSpoilt(t *testing.T) {
	a := asked()
	bands, hub, late, imports := a.Tables[4], a.Found[13], a.Ranks[4], a.Plan[5].Imports
	spoil(a)
	isList(t, "a table", bands, slices.Repeat([]int64{-7}, 20))
	isList(t, "a card's texts", hub.Compat, []string{"spoilt", "spoilt"})
	isList(t, "a rank", late, []string{"spoilt", "spoilt"})
	isList(t, "a package's imports", imports, slices.Repeat([]string{"spoilt"}, 5))
	isList(t, "a plan", a.Plan, make(start.Plan, 6))
}

// R3: no two lists share any memory, those of one answer or of two, the room behind their ends too.
func TestListsAreNew(t *testing.T) {
	all := append(lists(reflect.ValueOf(asked())), lists(reflect.ValueOf(asked()))...)
	all = slices.DeleteFunc(all, func(l reflect.Value) bool { return l.Cap() == 0 })
	begin := func(l reflect.Value) uintptr { return l.Pointer() }
	end := func(l reflect.Value) uintptr { return l.Pointer() + uintptr(l.Cap())*l.Type().Elem().Size() }
	slices.SortFunc(all, func(a, b reflect.Value) int { return int(begin(a)) - int(begin(b)) })
	for i := 1; i < len(all); i++ {
		if begin(all[i]) < end(all[i-1]) {
			t.Errorf("%v and %v share memory", all[i-1], all[i])
		}
	}
}

// sources are the files of a package of the project, but for its tests.
func sources(t *testing.T, pack string) []*ast.File {
	t.Helper()
	names, err := filepath.Glob(filepath.Join("..", pack, "*.go"))
	if err != nil {
		t.Fatal(err)
	}
	var all []*ast.File
	for _, name := range names {
		if strings.HasSuffix(name, "_test.go") {
			continue
		}
		f, err := parser.ParseFile(token.NewFileSet(), name, nil, 0)
		if err != nil {
			t.Fatal(err)
		}
		all = append(all, f)
	}
	if len(all) == 0 {
		t.Fatal("no sources:", pack)
	}
	return all
}

// imports are the packages of the project that one of them imports, rising.
func imports(t *testing.T, pack string) []string {
	t.Helper()
	var all []string
	for _, file := range sources(t, pack) {
		for _, im := range file.Imports {
			path, err := strconv.Unquote(im.Path.Value)
			if err != nil {
				t.Fatal(err)
			}
			if within, ok := strings.CutPrefix(path, "reveille/"); ok {
				all = append(all, within)
			}
		}
	}
	slices.Sort(all)
	return slices.Compact(all)
}

// S2: roll imports all five families, and api and start, and no other package of the project.
func TestImports(t *testing.T) {
	isList(t, "imports", imports(t, "roll"), []string{"api", "bus", "crystal", "radio", "sensor", "start", "supply"})
}

// S2: which other families a family leans on, straight, or through packages that are none; of all that stand below them, none leans on one.
func TestWhoLeansOnWhom(t *testing.T) {
	may := map[string][]string{
		"crystal": {}, "supply": {"crystal"}, "bus": {"crystal", "supply"}, "sensor": {"supply", "bus"}, "radio": {"bus", "sensor"},
	}
	for family, allowed := range may {
		var below func(pack string)
		below = func(pack string) {
			for _, other := range imports(t, pack) {
				if !slices.Contains(familyNames(), other) {
					below(other)
				} else if !slices.Contains(allowed, other) {
					t.Errorf("%s leans on %s, through %s", family, other, pack)
				}
			}
		}
		below(family)
	}
}

// S5: no variable at package level, and no init function.
func TestNoStartUp(t *testing.T) {
	for _, file := range sources(t, "roll") {
		for _, d := range file.Decls {
			if f, ok := d.(*ast.FuncDecl); ok && f.Recv == nil && f.Name.Name == "init" {
				t.Error("an init function")
			}
			if g, ok := d.(*ast.GenDecl); ok && g.Tok == token.VAR {
				t.Error("a variable at package level")
			}
		}
	}
}
