package card

// Read is a table that another one is made from, and by which factor.
type Read struct {
	Factor int64
	Of     []int64
}

// Entry is a table's entry.
func Entry(i int, base, step int64, reads []Read) int64 {
	if i < 0 {
		return 0
	}
	n := base + step*int64(i)
	for _, r := range reads {
		if len(r.Of) > 0 {
			n += r.Factor * r.Of[i%len(r.Of)]
		}
	}
	return n
}

// Sum is a table's sum.
func Sum(l []int64) int64 {
	all := int64(0)
	for _, n := range l {
		all += n
	}
	return all
}
