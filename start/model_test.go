package start_test

import (
	"slices"
	"sort"

	"reveille/api"
	"reveille/start"
	"reveille/words"
)

// model tells of a plan what the chapter's words say, by names and by trying, slowly.
type model struct{ p start.Plan }

// pack is the package of a path.
func (m model) pack(path string) (start.Pack, bool) {
	for _, k := range m.p {
		if k.Path == path {
			return k, true
		}
	}
	return start.Pack{}, false
}

func (m model) variable(path, name string) (start.Var, bool) {
	k, _ := m.pack(path)
	for _, v := range k.Vars {
		if v.Name == name {
			return v, true
		}
	}
	return start.Var{}, false
}

func (m model) function(path, name string) (start.Func, bool) {
	k, _ := m.pack(path)
	for _, f := range k.Funcs {
		if f.Name == name {
			return f, true
		}
	}
	return start.Func{}, false
}

// paths are the paths of a plan, rising.
func (m model) paths() []string {
	var l []string
	for _, k := range m.p {
		l = append(l, k.Path)
	}
	sort.Strings(l)
	return l
}

// twice says whether a text stands twice in a list.
func twice(l []string) bool {
	for i := range l {
		for k := range i {
			if l[i] == l[k] {
				return true
			}
		}
	}
	return false
}

// mayBe says whether the plan may be.
func (m model) mayBe() bool {
	if len(m.p) > 32 || twice(m.paths()) {
		return false
	}
	for _, k := range m.p {
		if !m.mayPack(k) {
			return false
		}
	}
	return true
}

func (m model) mayPack(k start.Pack) bool {
	ok := words.Name(k.Path) == api.OK && len(k.Imports) <= 32 && !twice(k.Imports) && len(k.Vars) <= 32 && len(k.Funcs) <= 32 && len(k.Inits) <= 8
	for _, path := range k.Imports {
		_, there := m.pack(path)
		ok = ok && there && path != k.Path
	}
	var names []string
	for _, v := range k.Vars {
		names = append(names, v.Name)
		ok = ok && v.Len >= 1 && v.Len <= 48 && m.mayExpr(k, v.Expr)
	}
	for _, f := range k.Funcs {
		names = append(names, f.Name)
		ok = ok && m.mayExpr(k, f.Expr)
	}
	for _, name := range names {
		ok = ok && words.Name(name) == api.OK
	}
	for _, steps := range k.Inits {
		ok = ok && len(steps) <= 32
		for _, s := range steps {
			ok = ok && m.mayStep(k, s)
		}
	}
	return ok && !twice(names)
}

// meant is the package that a package means by a path in Reads and Calls; there is none of an empty path.
func meant(k start.Pack, path string) string {
	if path == "" {
		return k.Path
	}
	if path != k.Path && slices.Contains(k.Imports, path) {
		return path
	}
	return ""
}

func (m model) mayExpr(k start.Pack, e start.Expr) bool {
	ok := len(e.Reads) <= 16 && len(e.Calls) <= 16 && len(e.Hidden) <= 16
	for _, r := range e.Reads {
		_, there := m.variable(meant(k, r.Pack), r.Name)
		ok = ok && there
	}
	for _, c := range e.Calls {
		_, there := m.function(meant(k, c.Pack), c.Name)
		ok = ok && there
	}
	for _, r := range e.Hidden {
		_, there := m.variable(r.Pack, r.Name)
		_, own := m.variable(k.Path, r.Name)
		ok = ok && (there || r.Pack == "" && own)
	}
	return ok
}

func (m model) mayStep(k start.Pack, s start.Step) bool {
	v, own := m.variable(k.Path, s.Name)
	_, read := m.variable(meant(k, s.Read.Pack), s.Read.Name)
	switch s.Do {
	case 1:
		return own && s.At >= 0 && s.At < v.Len
	case 2:
		return own && s.At >= 0 && s.At < v.Len && read
	}
	return s.Do == 3
}

// relation says which things, by their names, lead to which.
type relation map[[2]string]bool

// closed is a relation with what follows: what leads to another leads to what that leads to.
func (r relation) closed() relation {
	all := relation{}
	for k := range r {
		all[k] = true
	}
	for grew := true; grew; {
		grew = false
		for ab := range all {
			for cd := range all {
				if k := [2]string{ab[0], cd[1]}; ab[1] == cd[0] && !all[k] {
					all[k], grew = true, true
				}
			}
		}
	}
	return all
}

// rings are the classes of those of l that lead to one another.
func (r relation) rings(l []string) [][]string {
	r = r.closed()
	var all [][]string
	told := map[string]bool{}
	for _, a := range l {
		if told[a] || !r[[2]string{a, a}] {
			continue
		}
		var class []string
		for _, b := range l {
			if r[[2]string{a, b}] && r[[2]string{b, a}] {
				class = append(class, b)
				told[b] = true
			}
		}
		all = append(all, class)
	}
	return all
}

func (m model) importing() relation {
	r := relation{}
	for _, k := range m.p {
		for _, path := range k.Imports {
			r[[2]string{k.Path, path}] = true
		}
	}
	return r
}

func calling(k start.Pack) relation {
	r := relation{}
	for _, f := range k.Funcs {
		for _, c := range f.Expr.Calls {
			if c.Pack == "" {
				r[[2]string{f.Name, c.Name}] = true
			}
		}
	}
	return r
}

// depending is which variables of a package depend on which, functions left out again.
func depending(k start.Pack) relation {
	r := relation{}
	note := func(name string, e start.Expr) {
		for _, x := range e.Reads {
			if x.Pack == "" {
				r[[2]string{name, x.Name}] = true
			}
		}
		for _, c := range e.Calls {
			if c.Pack == "" {
				r[[2]string{name, c.Name}] = true
			}
		}
	}
	for _, v := range k.Vars {
		note(v.Name, v.Expr)
	}
	for _, f := range k.Funcs {
		note(f.Name, f.Expr)
	}
	all := relation{}
	for ab := range r.closed() {
		if slices.Contains(varNames(k), ab[0]) && slices.Contains(varNames(k), ab[1]) {
			all[ab] = true
		}
	}
	return all
}

func varNames(k start.Pack) []string {
	var l []string
	for _, v := range k.Vars {
		l = append(l, v.Name)
	}
	return l
}

func funcNames(k start.Pack) []string {
	var l []string
	for _, f := range k.Funcs {
		l = append(l, f.Name)
	}
	return l
}

// rings are what Rings tells, and what Check tells of them.
func (m model) rings() (all [][]string, at string) {
	if all = m.importing().rings(m.paths()); len(all) > 0 {
		return all, ""
	}
	for _, path := range m.paths() {
		k, _ := m.pack(path)
		for _, class := range append(calling(k).rings(funcNames(k)), depending(k).rings(varNames(k))...) {
			all = append(all, append([]string{path}, class...))
		}
	}
	if len(all) > 0 {
		at = all[0][0]
	}
	return all, at
}

// first is the first one of l that is not done and leads to none that is not done.
func first(l []string, done []string, leads relation) string {
	for _, a := range l {
		waits := slices.Contains(done, a)
		for _, b := range l {
			waits = waits || leads[[2]string{a, b}] && !slices.Contains(done, b)
		}
		if !waits {
			return a
		}
	}
	return ""
}

// order is what Order tells.
func (m model) order() []start.Stage {
	var all []start.Stage
	var ended []string
	for range m.p {
		k, _ := m.pack(first(m.paths(), ended, m.importing()))
		var made []string
		for range k.Vars {
			name := first(varNames(k), made, depending(k))
			all = append(all, start.Stage{Pack: k.Path, Name: name})
			made = append(made, name)
		}
		for i := range k.Inits {
			all = append(all, start.Stage{Pack: k.Path, Init: i + 1})
		}
		ended = append(ended, k.Path)
	}
	return all
}

// deps is what Deps tells.
func (m model) deps(path, name string) []string {
	k, _ := m.pack(path)
	var l []string
	for _, other := range varNames(k) {
		if depending(k)[[2]string{name, other}] {
			l = append(l, other)
		}
	}
	return l
}

// full is a variable by its package's path and its name.
type full [2]string

func named(k start.Pack, r start.Read) full {
	if r.Pack == "" {
		return full{k.Path, r.Name}
	}
	return full{r.Pack, r.Name}
}

// comes is what an expression of a package comes to at i, where look tells the entries that are read. Hidden ones are read by see.
func (m model) comes(k start.Pack, e start.Expr, i int, look, see func(x full, i int) int64) int64 {
	n := e.Base + int64(i)*e.Step
	for _, r := range e.Reads {
		n += r.Factor * look(named(k, r), i)
	}
	for _, r := range e.Hidden {
		n += r.Factor * see(named(k, r), i)
	}
	for _, c := range e.Calls {
		q := k
		if c.Pack != "" {
			q, _ = m.pack(c.Pack)
		}
		f, _ := m.function(q.Path, c.Name)
		n += m.comes(q, f.Expr, i, look, see)
	}
	return n
}

// run is what Run tells, and the variables for which a Hidden is read that is not made.
func (m model) run() (r start.Report, early []start.Stage) {
	stand := map[full][]int64{}
	look := func(x full, i int) int64 {
		if l := stand[x]; l != nil {
			return l[i%len(l)]
		}
		return 0
	}
	cards := 0
	for _, s := range m.order() {
		k, _ := m.pack(s.Pack)
		note := start.Note{Pack: s.Pack, Name: s.Name, Init: s.Init}
		if s.Init == 0 {
			v, _ := m.variable(s.Pack, s.Name)
			late := false
			see := func(x full, i int) int64 { late = late || stand[x] == nil; return look(x, i) }
			var nums []int64
			for i := range v.Len {
				nums = append(nums, m.comes(k, v.Expr, i, look, see))
				note.Sum += nums[i]
			}
			stand[full{s.Pack, s.Name}] = nums
			if late {
				early = append(early, s)
			}
		} else {
			cards += m.init(k, s.Init, stand, look)
			for _, name := range varNames(k) {
				for _, n := range stand[full{k.Path, name}] {
					note.Sum += n
				}
			}
		}
		note.Stood = cards
		r.Notes = append(r.Notes, note)
	}
	r.Values = m.values(func(x full) []int64 { return stand[x] })
	return r, early
}

// init runs an init function, and answers how many cards it enters.
func (m model) init(k start.Pack, number int, stand map[full][]int64, look func(x full, i int) int64) int {
	cards := 0
	for _, s := range k.Inits[number-1] {
		x := full{k.Path, s.Name}
		switch s.Do {
		case 1:
			stand[x][s.At] += s.By
		case 2:
			stand[x][s.At] += s.Read.Factor * look(named(k, s.Read), s.At)
		case 3:
			cards++
		}
	}
	return cards
}

func (m model) values(of func(x full) []int64) []start.Value {
	var all []start.Value
	for _, path := range m.paths() {
		k, _ := m.pack(path)
		for _, name := range varNames(k) {
			all = append(all, start.Value{Pack: path, Name: name, Nums: of(full{path, name})})
		}
	}
	return all
}

// lazy is what Lazy tells: each number is asked for through those that it is reckoned of.
func (m model) lazy() []start.Value {
	left := map[full][]int64{}
	none := func(full, int) int64 { return 0 }
	for _, s := range m.order() { // in this order each package stands behind those that it imports
		k, _ := m.pack(s.Pack)
		if _, begun := left[full{k.Path}]; begun {
			continue
		}
		left[full{k.Path}] = nil
		var ask func(x full, i int) int64
		ask = func(x full, i int) int64 {
			if x[0] != k.Path {
				return left[x][i%len(left[x])]
			}
			v, _ := m.variable(x[0], x[1])
			return m.comes(k, v.Expr, i%v.Len, ask, none)
		}
		for _, v := range k.Vars {
			var nums []int64
			for i := range v.Len {
				nums = append(nums, ask(full{k.Path, v.Name}, i))
			}
			left[full{k.Path, v.Name}] = nums
		}
		for i := range k.Inits {
			m.init(k, i+1, left, func(x full, i int) int64 { return left[x][i%len(left[x])] })
		}
	}
	return m.values(func(x full) []int64 { return left[x] })
}
