package start

import "slices"

// most is how many things of a kind stand beside one another at most: packages, or a package's variables, or its functions.
const most = max(MaxPacks, MaxVars, MaxFuncs)

// set is some of them, by their places.
type set [most]bool

// places are the places of a set, rising.
func (s set) places() []int {
	var all []int
	for i, in := range s {
		if in {
			all = append(all, i)
		}
	}
	return all
}

// reached is, of each thing, what it leads to, straight or through others; leads has what it leads to straight.
func reached(leads [][]int) []set {
	all := make([]set, len(leads))
	for i := range all {
		var follow func(from int)
		follow = func(from int) {
			for _, to := range leads[from] {
				if !all[i][to] {
					all[i][to] = true
					follow(to)
				}
			}
		}
		follow(i)
	}
	return all
}

// rings are the classes of things that lead to one another, by their first ones.
func rings(leads [][]int) []set {
	all := reached(leads)
	var classes []set
	for i := range all {
		var class set
		for k := range all {
			class[k] = all[i][k] && all[k][i]
		}
		// What leads not to itself is in no class, what stands in one ring has one class.
		if class != (set{}) && !slices.Contains(classes, class) {
			classes = append(classes, class)
		}
	}
	return classes
}

// inOrder are things, of which none leads to itself: again and again the first one that is not told yet, and leads only to such as are.
func inOrder(leads [][]int) []int {
	var told set
	ready := func(i int) bool {
		return !told[i] && !slices.ContainsFunc(leads[i], func(to int) bool { return !told[to] })
	}
	var all []int
	for range leads {
		for i := range leads {
			if ready(i) {
				told[i] = true
				all = append(all, i)
				break
			}
		}
	}
	return all
}
