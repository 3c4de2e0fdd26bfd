package start

import (
	"slices"
	"strings"

	"reveille/api"
)

// program is a plan that may be, with places where the plan has names. Its packages stand by rising paths.
type program struct{ packs []pack }

// place is where a variable or a function stands: the place of its package, and its own one there.
type place struct{ pack, at int }

// term is a variable that is read, and times what.
type term struct {
	of     place
	factor int64
}

// expr is an Expr with places.
type expr struct {
	base, step    int64
	reads, hidden []term
	calls         []place
}

// variable is a Var with places.
type variable struct {
	name string
	size int
	expr expr
}

// function is a Func with places.
type function struct {
	name string
	expr expr
}

// step is a Step with places: of what it does to an entry of a variable of its own package.
type step struct {
	do       uint8
	variable int
	entry    int
	by       int64
	read     term
}

// pack is a Pack with places.
type pack struct {
	path    string
	imports []int
	vars    []variable
	funcs   []function
	inits   [][]step
}

// linked is a plan's program, if the plan may be.
func linked(p Plan) (*program, api.Errno) {
	if !areShort(p) {
		return nil, api.ErrPlan
	}
	sorted := slices.Clone(p)
	slices.SortFunc(sorted, func(a, b Pack) int { return strings.Compare(a.Path, b.Path) })
	l := newLinker(sorted)
	g := &program{}
	for _, k := range sorted {
		g.packs = append(g.packs, l.pack(k))
	}
	if l.lost {
		return nil, api.ErrPlan
	}
	return g, api.OK
}

// ordered is a plan's program, if the plan may be and has no ring.
func ordered(p Plan) (*program, api.Errno) {
	g, e := linked(p)
	if e != api.OK {
		return nil, e
	}
	if len(g.packRings())+len(g.innerRings()) > 0 {
		return nil, api.ErrRing
	}
	return g, api.OK
}

// visit goes through an expression, and through those of the functions that are called on the way, each once.
func (g *program) visit(e expr, do func(e expr)) {
	asked := map[place]struct{}{}
	var ask func(e expr)
	ask = func(e expr) {
		do(e)
		for _, c := range e.calls {
			if _, twice := asked[c]; !twice {
				asked[c] = struct{}{}
				ask(g.packs[c.pack].funcs[c.at].expr)
			}
		}
	}
	ask(e)
}

// imports are, of each package, those that it imports.
func (g *program) imports() [][]int {
	var all [][]int
	for _, k := range g.packs {
		all = append(all, k.imports)
	}
	return all
}

// calls are, of each function of a package, those of the same package that it calls.
func (g *program) calls(pack int) [][]int {
	all := make([][]int, len(g.packs[pack].funcs))
	for i, f := range g.packs[pack].funcs {
		for _, c := range f.expr.calls {
			if c.pack == pack {
				all[i] = append(all[i], c.at)
			}
		}
	}
	return all
}

// uses are, of each variable of a package, those of the same package that it reads by name, itself or through functions.
func (g *program) uses(pack int) [][]int {
	all := make([][]int, len(g.packs[pack].vars))
	for i, v := range g.packs[pack].vars {
		g.visit(v.expr, func(e expr) {
			for _, r := range e.reads {
				if r.of.pack == pack {
					all[i] = append(all[i], r.of.at)
				}
			}
		})
	}
	return all
}

// packRings are the rings of packages that import one another.
func (g *program) packRings() [][]string {
	return named(rings(g.imports()), func(i int) string { return g.packs[i].path })
}

// innerRings are the rings within packages, each behind its package's path.
func (g *program) innerRings() [][]string {
	var all [][]string
	for i, k := range g.packs {
		of := named(rings(g.calls(i)), func(f int) string { return k.funcs[f].name })
		of = append(of, named(rings(g.uses(i)), func(v int) string { return k.vars[v].name })...)
		for _, names := range of {
			all = append(all, slices.Concat([]string{k.path}, names))
		}
	}
	return all
}

// named are classes by the names of what is in them.
func named(classes []set, name func(i int) string) [][]string {
	var all [][]string
	for _, class := range classes {
		var names []string
		for _, i := range class.places() {
			names = append(names, name(i))
		}
		all = append(all, names)
	}
	return all
}
