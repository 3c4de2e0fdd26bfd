package start

import (
	"slices"
	"strings"

	"reveille/api"
)

// linker finds the places of what packages name.
type linker struct {
	packs       map[string]int
	vars, funcs map[Call]place // by the path of the package and the name
	sizes       map[place]int  // of the variables
	lost        bool           // something that was named is not there
}

// newLinker knows what stands in these packages.
func newLinker(packs []Pack) *linker {
	l := &linker{packs: map[string]int{}, vars: map[Call]place{}, funcs: map[Call]place{}, sizes: map[place]int{}}
	for i, k := range packs {
		l.packs[k.Path] = i
		for at, v := range k.Vars {
			l.vars[Call{k.Path, v.Name}] = place{i, at}
			l.sizes[place{i, at}] = v.Len
		}
		for at, f := range k.Funcs {
			l.funcs[Call{k.Path, f.Name}] = place{i, at}
		}
	}
	return l
}

func (l *linker) pack(k Pack) pack {
	out := pack{path: k.Path}
	for _, path := range k.Imports {
		i, ok := l.packs[path]
		l.need(ok)
		out.imports = append(out.imports, i)
	}
	for _, v := range k.Vars {
		out.vars = append(out.vars, variable{v.Name, v.Len, l.expr(k, v.Expr)})
	}
	for _, f := range k.Funcs {
		out.funcs = append(out.funcs, function{f.Name, l.expr(k, f.Expr)})
	}
	for _, steps := range k.Inits {
		var to []step
		for _, s := range steps {
			to = append(to, l.step(k, s))
		}
		out.inits = append(out.inits, to)
	}
	return out
}

func (l *linker) expr(k Pack, e Expr) expr {
	out := expr{base: e.Base, step: e.Step}
	for _, r := range e.Reads {
		out.reads = append(out.reads, l.read(k, r))
	}
	for _, c := range e.Calls {
		out.calls = append(out.calls, l.find(l.funcs, l.seen(k, c.Pack), c.Name))
	}
	for _, r := range e.Hidden {
		path := r.Pack
		if path == "" {
			path = k.Path
		}
		out.hidden = append(out.hidden, term{l.find(l.vars, path, r.Name), r.Factor})
	}
	return out
}

// step looks at those fields alone that the step's line names.
func (l *linker) step(k Pack, s Step) step {
	out := step{do: s.Do}
	switch s.Do {
	case Add:
		out.by = s.By
	case Gain:
		out.read = l.read(k, s.Read)
	case Enter:
		return out
	default:
		l.need(false)
		return out
	}
	to := l.find(l.vars, k.Path, s.Name)
	l.need(s.At >= 0 && s.At < l.sizes[to])
	out.variable, out.entry = to.at, s.At
	return out
}

// read is a variable that a package reads by name.
func (l *linker) read(k Pack, r Read) term {
	return term{l.find(l.vars, l.seen(k, r.Pack), r.Name), r.Factor}
}

// seen is the path of the package that another one means by a path, or by none.
func (l *linker) seen(k Pack, path string) string {
	if path == "" {
		return k.Path
	}
	l.need(slices.Contains(k.Imports, path))
	return path
}

func (l *linker) find(among map[Call]place, path, name string) place {
	at, ok := among[Call{path, name}]
	l.need(ok)
	return at
}

// need notes that something is lost if it is not there.
func (l *linker) need(there bool) { l.lost = l.lost || !there }

// areShort says whether packages keep to the limits, and have names of their own. What they name of others is not asked.
func areShort(p Plan) bool {
	if len(p) > MaxPacks {
		return false
	}
	var paths []string
	for _, k := range p {
		if !isShort(k) {
			return false
		}
		paths = append(paths, k.Path)
	}
	return areNames(paths)
}

func isShort(k Pack) bool {
	if len(k.Imports) > MaxParts || len(k.Vars) > MaxVars || len(k.Funcs) > MaxFuncs || len(k.Inits) > MaxInits {
		return false
	}
	var names []string
	for _, v := range k.Vars {
		if v.Len < 1 || v.Len > MaxLen || !isShortExpr(v.Expr) {
			return false
		}
		names = append(names, v.Name)
	}
	for _, f := range k.Funcs {
		if !isShortExpr(f.Expr) {
			return false
		}
		names = append(names, f.Name)
	}
	if slices.ContainsFunc(k.Inits, func(steps []Step) bool { return len(steps) > MaxParts }) {
		return false
	}
	// A package's own path is none of its Imports.
	return areNames(names) && areNames(slices.Concat(k.Imports, []string{k.Path}))
}

func isShortExpr(e Expr) bool {
	return len(e.Reads) <= MaxReads && len(e.Calls) <= MaxReads && len(e.Hidden) <= MaxReads
}

// areNames says whether texts are names, no two the same.
func areNames(l []string) bool {
	seen := map[string]struct{}{}
	for _, s := range l {
		if _, twice := seen[s]; twice || !isName(s) {
			return false
		}
		seen[s] = struct{}{}
	}
	return true
}

// isName says whether a text is a name.
func isName(s string) bool {
	if len(s) < 1 || len(s) > api.MaxName {
		return false
	}
	for i := range len(s) {
		c := s[i]
		if !(c >= 'a' && c <= 'z' || c >= '0' && c <= '9' || strings.IndexByte(",._+-@#?", c) >= 0) {
			return false
		}
	}
	return true
}
