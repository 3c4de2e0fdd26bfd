package roll

import "reveille/start"

// table is the name of each family's variable in the plan.
const table = "table"

// Plan is how the arrays are made, as data. Its numbers are written out, though the families know some of them: so it can
// be held against what stands.
func Plan() start.Plan {
	return start.Plan{
		{
			Path:  "crystal",
			Vars:  variable(32, 1000000, 1000000),
			Inits: [][]start.Step{add(-967232, 0), add(68000000, 31)},
		},
		{
			Path:    "supply",
			Imports: []string{"crystal"},
			Vars:    variable(24, 300000, 12500, read(1, "crystal")),
			Inits:   [][]start.Step{add(467232, 0), add(412500, 23)},
		},
		{
			Path:    "bus",
			Imports: []string{"crystal", "supply"},
			Vars:    variable(20, 268435456, 65536, read(1, "crystal"), read(4, "supply")),
			Inits:   [][]start.Step{add(4096, 0), gain(read(2, "crystal"), 19)},
		},
		{
			Path:    "sensor",
			Imports: []string{"supply", "bus"},
			Vars:    variable(16, -200000, 10000, read(1, "supply")),
			Inits:   [][]start.Step{add(25000, 0), add(500000, 15)},
		},
		{
			Path:    "radio",
			Imports: []string{"bus", "sensor"},
			Vars:    variable(20, 160000000, 25000, read(1, "bus"), read(2, "sensor")),
			Inits:   [][]start.Step{add(-2320, 0), add(-30640, 19)},
		},
		{
			Path:    "roll",
			Imports: []string{"crystal", "supply", "bus", "sensor", "radio"},
		},
	}
}

// variable is a family's one: n numbers, and how they are reckoned.
func variable(n int, base, step int64, reads ...start.Read) []start.Var {
	return []start.Var{{Name: table, Len: n, Expr: start.Expr{Base: base, Step: step, Reads: reads}}}
}

// read is the array of another family, and times what.
func read(factor int64, family string) start.Read {
	return start.Read{Pack: family, Name: table, Factor: factor}
}

// add is an init function that adds a number to an entry of its family's array.
func add(by int64, at int) []start.Step {
	return []start.Step{{Do: start.Add, Name: table, At: at, By: by}}
}

// gain is an init function that adds to an entry what another family's array has there.
func gain(of start.Read, at int) []start.Step {
	return []start.Step{{Do: start.Gain, Name: table, At: at, Read: of}}
}
