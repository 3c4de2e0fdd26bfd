package start

// stage is something that is done at start-up: a package's variable that is made, or, where init is not 0, its init function of that number.
type stage struct{ pack, variable, init int }

// row has a variable's numbers, or what a function comes to; behind their end it has noughts.
type row [MaxLen]int64

// machine is a start-up under way.
type machine struct {
	of    *program
	rows  [][]row // of each package the variables, as they stand
	blind bool    // Hidden ones are not read
	cards int
}

func newMachine(g *program, blind bool) *machine {
	m := &machine{of: g, blind: blind}
	for _, k := range g.packs {
		m.rows = append(m.rows, make([]row, len(k.vars)))
	}
	return m
}

// stages are what is done at start-up, in order.
func (g *program) stages() []stage {
	var all []stage
	for _, k := range inOrder(g.imports()) {
		for _, v := range inOrder(g.uses(k)) {
			all = append(all, stage{pack: k, variable: v})
		}
		for i := range g.packs[k].inits {
			all = append(all, stage{pack: k, init: i + 1})
		}
	}
	return all
}

// told is a stage by names.
func (g *program) told(s stage) Stage {
	k := g.packs[s.pack]
	if s.init > 0 {
		return Stage{Pack: k.path, Init: s.init}
	}
	return Stage{Pack: k.path, Name: k.vars[s.variable].name}
}

// do does what a stage says, and answers the sum that is noted of it.
func (m *machine) do(s stage) int64 {
	if s.init == 0 {
		m.makeVar(s.pack, s.variable)
		return sum(m.rows[s.pack][s.variable])
	}
	m.runInit(s.pack, s.init)
	all := int64(0)
	for _, r := range m.rows[s.pack] {
		all += sum(r)
	}
	return all
}

func (m *machine) makeVar(pack, at int) {
	v := m.of.packs[pack].vars[at]
	// While it is reckoned the variable itself still has noughts.
	m.rows[pack][at] = m.comesTo(v.expr, v.size)
}

// comesTo is what an expression comes to at each of n entries, as all variables stand.
func (m *machine) comesTo(e expr, n int) row {
	found := map[place]row{}
	var ask func(e expr) row
	ask = func(e expr) row {
		var r row
		for i := range n {
			r[i] = e.base + int64(i)*e.step
			for _, t := range e.reads {
				r[i] += m.entry(t, i)
			}
			if m.blind {
				continue
			}
			for _, t := range e.hidden {
				r[i] += m.entry(t, i)
			}
		}
		for _, c := range e.calls {
			if _, ok := found[c]; !ok {
				found[c] = ask(m.of.packs[c.pack].funcs[c.at].expr)
			}
			for i, by := range found[c] {
				r[i] += by
			}
		}
		return r
	}
	return ask(e)
}

// entry is what a term comes to at an entry, as its variable stands.
func (m *machine) entry(t term, i int) int64 {
	size := m.of.packs[t.of.pack].vars[t.of.at].size
	return t.factor * m.rows[t.of.pack][t.of.at][i%size]
}

// runInit runs a package's init function of that number.
func (m *machine) runInit(pack, number int) {
	for _, s := range m.of.packs[pack].inits[number-1] {
		switch s.do {
		case Add:
			m.rows[pack][s.variable][s.entry] += s.by
		case Gain:
			m.rows[pack][s.variable][s.entry] += m.entry(s.read, s.entry)
		case Enter:
			m.cards++
		}
	}
}

// values are what all variables have.
func (m *machine) values() []Value {
	var all []Value
	for i, k := range m.of.packs {
		for at, v := range k.vars {
			nums := append([]int64(nil), m.rows[i][at][:v.size]...)
			all = append(all, Value{Pack: k.path, Name: v.name, Nums: nums})
		}
	}
	return all
}

func sum(r row) int64 {
	all := int64(0)
	for _, n := range r {
		all += n
	}
	return all
}
