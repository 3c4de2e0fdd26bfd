package blob_test

import (
	"encoding/binary"
	"runtime"
	"slices"
	"strings"
	"testing"

	"reveille/api"
	"reveille/blob"
)

// isNoBlob asks that Decode and Look refuse some bytes.
func isNoBlob(t *testing.T, what, s string) {
	t.Helper()
	if l, e := blob.Decode(s); len(l) != 0 || e != api.ErrForm {
		t.Errorf("Decode, %s: %+v, %d", what, l, e)
	}
	if h, e := blob.Look(s); h != (blob.Head{}) || e != api.ErrForm {
		t.Errorf("Look, %s: %+v, %d", what, h, e)
	}
}

// strict reads a blob by the chapter's words, byte by byte, and holds nothing against Encode.
type strict struct {
	body  string
	at    int
	names []string // of the strings
	used  int      // how many of them were used, which must be the first ones
	tree  []api.Node
	bad   bool
}

func (r *strict) cell() int {
	if r.at+4 > len(r.body) {
		r.bad = true
		return -1
	}
	r.at += 4
	return int(binary.BigEndian.Uint32([]byte(r.body[r.at-4 : r.at])))
}

// passed is the next n bytes, behind which the filling must be noughts.
func (r *strict) passed(n int) string {
	end := (r.at + n + 3) &^ 3
	if n > 2000 || end > len(r.body) || strings.Trim(r.body[r.at+n:end], "\x00") != "" {
		r.bad = true
		return ""
	}
	s := r.body[r.at : r.at+n]
	r.at = end
	return s
}

// nameAt is the name that begins at a byte of the strings; a new one must be the next one.
func (r *strict) nameAt(place int) string {
	for i, name := range r.names {
		if place == 0 && i <= r.used {
			r.used = max(r.used, i+1)
			return name
		}
		place -= len(name) + 1
	}
	r.bad = true
	return ""
}

func (r *strict) node(parent int) {
	i := len(r.tree)
	name, _, _ := strings.Cut(r.body[r.at:], "\x00")
	r.tree = append(r.tree, api.Node{Parent: parent, Name: name})
	if r.passed(len(name) + 1); r.bad {
		return
	}
	word := r.cell()
	for ; word == 3 && !r.bad; word = r.cell() {
		size, place := r.cell(), r.cell()
		if r.bad {
			return
		}
		r.tree[i].Props = append(r.tree[i].Props, api.Prop{Name: r.nameAt(place), Value: r.passed(size)})
	}
	for ; word == 1 && !r.bad; word = r.cell() {
		r.node(i)
	}
	r.bad = r.bad || word != 2
}

// wantDecoded is the tree whose blob s is.
func wantDecoded(s string) ([]api.Node, bool) {
	if len(s) < 32 {
		return nil, false
	}
	var head [8]int
	for i := range head {
		head[i] = int(binary.BigEndian.Uint32([]byte(s[4*i:])))
	}
	total, body, place, texts := head[1], head[3], head[4], head[5]
	if head[0] != 0xd00dfeed || total != len(s) || head[2] != 32 || place != 32+body || place+texts != total || head[6] != 17 {
		return nil, false
	}
	r := strict{body: s[32:place]}
	if rest := s[place:]; rest != "" {
		if !strings.HasSuffix(rest, "\x00") {
			return nil, false
		}
		r.names = strings.Split(rest[:len(rest)-1], "\x00")
	}
	sorted := slices.Sorted(slices.Values(r.names))
	if len(slices.Compact(sorted)) != len(r.names) || r.cell() != 1 {
		return nil, false
	}
	r.node(-1)
	if r.bad || r.cell() != 9 || r.at != len(r.body) || r.used != len(r.names) || head[7] != len(r.tree) || !wantTree(r.tree) {
		return nil, false
	}
	return r.tree, true
}

// decodedAsTold holds Decode and Look of any bytes against the strict reading, and says whether they are a blob.
func decodedAsTold(t *testing.T, s string) bool {
	t.Helper()
	want, ok := wantDecoded(s)
	e := api.ErrForm
	if ok {
		e = api.OK
	}
	got, f := blob.Decode(s)
	if !sameTree(got, want) || f != e {
		t.Fatalf("Decode(%x): %+v, %d, want %+v, %d", s, got, f, want, e)
	}
	h, f := blob.Look(s)
	if (h == blob.Head{}) == ok || f != e {
		t.Fatalf("Look(%x): %+v, %d, want the error %d", s, h, f, e)
	}
	if ok {
		if again, _ := blob.Encode(got); again != s {
			t.Fatalf("%x is read as %+v, which is told as %x", s, got, again)
		}
	}
	return ok
}

// P3.1: the chapter's examples of what is refused.
func TestDecodeExamples(t *testing.T) {
	r, s := wantBlob(root()), wantBlob(two())
	isNoBlob(t, "no bytes", "")
	isNoBlob(t, "without the last byte", r[:len(r)-1])
	isNoBlob(t, "a byte more", r+"\x00")
	isNoBlob(t, "10 in the place of 11", r[:27]+"\x10"+r[28:])
	isNoBlob(t, "a filling behind a value", s[:55]+"\x01"+s[56:])
	isNoBlob(t, "a filling behind a name", s[:62]+"\x01"+s[63:])
	body := cell(1, 0, 3, 0, 0) + cell(1) + "x\x00\x00\x00" + cell(3, 0, 2) + cell(2, 2, 9)
	if !decodedAsTold(t, forged(2, body, "a\x00b\x00")) {
		t.Errorf("two names were refused")
	}
	isNoBlob(t, "a name twice", forged(2, body, "a\x00a\x00"))
	isNoBlob(t, "a name that nothing uses", forged(2, body, "a\x00b\x00c\x00"))
}

// P3.1: blobs that are all right but for one thing.
func TestForged(t *testing.T) {
	x := "x\x00\x00\x00"
	one := cell(1, 0, 3, 0, 0, 2, 9)
	if !decodedAsTold(t, forged(1, one, "bc\x00")) {
		t.Errorf("one prop was refused")
	}
	for what, s := range map[string]string{
		"a name's end as a name":        forged(1, cell(1, 0, 3, 0, 0, 3, 0, 1, 2, 9), "bc\x00"),
		"a name that begins in another": forged(1, cell(1, 0, 3, 0, 1, 2, 9), "bc\x00"),
		"an empty name":                 forged(1, cell(1, 0, 3, 0, 2, 2, 9), "bc\x00"),
		"a name past the strings":       forged(1, cell(1, 0, 3, 0, 3, 2, 9), "bc\x00"),
		"a name far past the strings":   forged(1, cell(1, 0, 3, 0, -1, 2, 9), "bc\x00"),
		"strings without an end":        forged(1, one, "bc"),
		"strings that are filled":       forged(1, one, "bc\x00\x00"),
		"strings where none are needed": forged(1, cell(1, 0, 2, 9), "\x00"),
		"no strings":                    forged(1, one, ""),
		"names out of their order":      forged(1, cell(1, 0, 3, 0, 2, 3, 0, 0, 2, 9), "a\x00b\x00"),
		"one name for two props":        forged(1, cell(1, 0, 3, 0, 0, 3, 0, 0, 2, 9), "a\x00"),
		"a prop behind a kid":           forged(2, cell(1, 0, 1)+x+cell(2, 3, 0, 0, 2, 9), "a\x00"),
		"no end of the root":            forged(1, cell(1, 0, 9), ""),
		"no end of a kid":               forged(2, cell(1, 0, 1)+x+cell(2, 9), ""),
		"no end of the whole":           forged(1, cell(1, 0, 2), ""),
		"an end more":                   forged(1, cell(1, 0, 2, 2, 9), ""),
		"a whole's end more":            forged(1, cell(1, 0, 2, 9, 9), ""),
		"a nought behind the end":       forged(1, cell(1, 0, 2, 9, 0), ""),
		"a cell that is none":           forged(1, cell(1, 0, 4, 2, 9), ""),
		"a cell that is passed over":    forged(1, cell(4, 1, 0, 2, 9), ""),
		"a root behind the root":        forged(2, cell(1, 0, 2, 1, 0, 2, 9), ""),
		"a kid behind the root":         forged(2, cell(1, 0, 2, 1)+x+cell(2, 9), ""),
		"a kid without a name":          forged(2, cell(1, 0, 1, 0, 2, 2, 9), ""),
		"a root with a name":            forged(1, cell(1)+x+cell(2, 9), ""),
		"a name that is filled too far": forged(2, cell(1, 0, 1)+x+cell(0, 2, 2, 9), ""),
		"a name that lacks its end":     forged(2, cell(1, 0, 1)+"abcd"+cell(2, 2, 9), ""),
		"a name that never ends":        forged(2, cell(1, 0, 1)+strings.Repeat("a", 400), ""),
		"a value that is filled":        forged(1, cell(1, 0, 3, 4, 0, 0, 0, 2, 9), "a\x00"),
		"a value past the structure":    forged(1, cell(1, 0, 3, 16, 0, 2, 9), "a\x00"),
		"a value of the rest":           forged(1, cell(1, 0, 3, 8, 0, 2, 9), "a\x00"),
		"a value of 2^32 - 1 bytes":     forged(1, cell(1, 0, 3, -1, 0, 2, 9), "a\x00"),
		"a value of 2^31 bytes":         forged(1, cell(1, 0, 3, 1<<31, 0, 2, 9), "a\x00"),
		"a node less":                   forged(1, cell(1, 0, 1)+x+cell(2, 2, 9), ""),
		"a node more":                   forged(3, cell(1, 0, 1)+x+cell(2, 2, 9), ""),
		"no nodes":                      forged(0, cell(9), ""),
		"nothing":                       forged(0, "", ""),
		"a structure of five bytes":     forged(1, cell(1)+"\x00", ""),
		"a structure not of cells":      forged(1, cell(1, 0, 2, 9)+"\x00", ""),
	} {
		isNoBlob(t, what, s)
		if _, ok := wantDecoded(s); ok {
			t.Errorf("%s: the strict reading takes it", what)
		}
	}
}

// P3.1: strings that stand elsewhere, or ahead of the structure.
func TestForgedHead(t *testing.T) {
	body, texts := cell(1, 0, 3, 0, 0, 2, 9), "a\x00"
	n := len(body)
	head := func(l ...int) string { return cell(l...) + body + texts }
	if !decodedAsTold(t, head(0xd00dfeed, 34+n, 32, n, 32+n, 2, 17, 1)) {
		t.Errorf("the right head was refused")
	}
	for i, l := range [][]int{
		{0xedfe0dd0, 34 + n, 32, n, 32 + n, 2, 17, 1},
		{0xd00dfeed, 33 + n, 32, n, 32 + n, 2, 17, 1},
		{0xd00dfeed, 0, 32, n, 32 + n, 2, 17, 1},
		{0xd00dfeed, 34 + n, 40, n, 32 + n, 2, 17, 1},
		{0xd00dfeed, 34 + n, 32, n + 4, 32 + n, 2, 17, 1},
		{0xd00dfeed, 34 + n, 32, n - 4, 32 + n, 2, 17, 1},
		{0xd00dfeed, 34 + n, 32, n + 2, 34 + n, 0, 17, 1},
		{0xd00dfeed, 34 + n, 32, n + 3, 35 + n, -1, 17, 1},
		{0xd00dfeed, 34 + n, 32, -1, 31, 2, 17, 1},
		{0xd00dfeed, 34 + n, 32, 1 << 31, 32 + n, 2, 17, 1},
		{0xd00dfeed, 34 + n, 32, n, 33 + n, 2, 17, 1},
		{0xd00dfeed, 34 + n, 32, n, 32 + n, 1, 17, 1},
		{0xd00dfeed, 34 + n, 32, n, 32 + n, 2, 16, 1},
		{0xd00dfeed, 34 + n, 32, n, 32 + n, 2, 17, 0},
		{0xd00dfeed, 34 + n, 32, n, 32 + n, 2, 17, -1},
	} {
		if s := head(l...); decodedAsTold(t, s) {
			t.Errorf("head %d was taken", i)
		}
	}
}

// P3.1, P3.3: blobs with any byte changed to any other, a byte taken out, or put in.
func TestChangedBytes(t *testing.T) {
	taken := 0
	for _, l := range [][]api.Node{root(), two(), bushy()} {
		s := wantBlob(l)
		for i := range s {
			for c := range 256 {
				if decodedAsTold(t, s[:i]+string([]byte{byte(c)})+s[i+1:]) {
					taken++
				}
			}
			decodedAsTold(t, s[:i]+s[i+1:])
			for _, c := range []byte{0, 1, 2, 3, 9, 'a'} {
				decodedAsTold(t, s[:i]+string([]byte{c})+s[i:])
			}
		}
	}
	if taken < 1000 {
		t.Errorf("only %d of the changed ones are blobs", taken)
	}
}

// P3.1: blobs with a cell changed; with cells of the structure taken out, put in or swapped, and the head that goes with it.
func TestChangedCells(t *testing.T) {
	for _, l := range [][]api.Node{root(), two(), bushy()} {
		s := wantBlob(l)
		h, _ := blob.Look(s)
		body, texts := s[32:32+h.Struct], s[32+h.Struct:]
		others := []int{0, 1, 2, 3, 4, 5, 9, 17, 32, h.Total, h.Struct, 1 << 31, -1, 0x61000000}
		for i := 0; i+4 <= len(s); i += 4 {
			for _, n := range others {
				decodedAsTold(t, s[:i]+cell(n)+s[i+4:])
			}
		}
		for i := 0; i+4 <= len(body); i += 4 {
			for nodes := h.Nodes - 1; nodes <= h.Nodes+1; nodes++ {
				decodedAsTold(t, forged(nodes, body[:i]+body[i+4:], texts))
				for _, n := range others {
					decodedAsTold(t, forged(nodes, body[:i]+cell(n)+body[i:], texts))
				}
			}
			for j := i + 4; j+4 <= len(body); j += 4 {
				decodedAsTold(t, forged(h.Nodes, body[:i]+body[j:j+4]+body[i+4:j]+body[i:i+4]+body[j+4:], texts))
				decodedAsTold(t, forged(h.Nodes, body[:i]+body[j:], texts))
			}
		}
	}
}

// P3.1: all structures of a few cells, with strings of a few names.
func TestShortStructures(t *testing.T) {
	taken := 0
	parts := []string{cell(1), cell(2), cell(3), cell(9), cell(0), "a\x00\x00\x00", "b\x00\x00\x00"}
	var lay func(n int, s string)
	lay = func(n int, s string) {
		for nodes := 1; nodes <= 2; nodes++ {
			for _, texts := range []string{"", "a\x00", "a\x00b\x00"} {
				if decodedAsTold(t, forged(nodes, s+cell(2, 9), texts)) {
					taken++
				}
			}
		}
		if n == 0 {
			return
		}
		for _, p := range parts {
			lay(n-1, s+p)
		}
	}
	lay(4, cell(1, 0))
	if taken < 5 {
		t.Errorf("only %d are blobs", taken)
	}
}

// P3.3: no beginning of a blob is one, and none with something behind it.
func TestBeginnings(t *testing.T) {
	for _, l := range [][]api.Node{root(), two(), bushy(), wide(20), deep(16)} {
		s, e := blob.Encode(l)
		if e != api.OK {
			t.Fatalf("Encode: %d", e)
		}
		for i := range s {
			isNoBlob(t, "a beginning", s[:i])
			isNoBlob(t, "an end", s[i+1:])
		}
		for c := range 256 {
			isNoBlob(t, "a byte behind", s+string([]byte{byte(c)}))
			isNoBlob(t, "a byte ahead", string([]byte{byte(c)})+s)
		}
		isNoBlob(t, "a blob behind", s+s)
		isNoBlob(t, "a cell behind", s+cell(9))
	}
}

// P3.1: bytes that are not alike to a blob at all.
func TestNoBlobs(t *testing.T) {
	for n := range 80 {
		for _, c := range []string{"\x00", "\x01", "\xff", "a", "\xd0\x0d\xfe\xed", cell(1), cell(32)} {
			isNoBlob(t, "one thing again and again", strings.Repeat(c, n))
		}
	}
}

// P3.1: what asks for more than a tree may have is refused on the way.
func TestNotTooMuchIsLaid(t *testing.T) {
	const many = 1 << 20
	x, p := cell(1)+"x\x00\x00\x00", cell(3, 0, 0)
	for what, s := range map[string]string{
		"many kids":           forged(many+1, cell(1, 0)+strings.Repeat(x+cell(2), many)+cell(2, 9), ""),
		"many beneath":        forged(many+1, cell(1, 0)+strings.Repeat(x, many)+strings.Repeat(cell(2), many+1)+cell(9), ""),
		"many props":          forged(1, cell(1, 0)+strings.Repeat(p, many)+cell(2, 9), "a\x00"),
		"a long value":        forged(1, cell(1, 0, 3, 4*many, 0)+strings.Repeat("v", 4*many)+cell(2, 9), "a\x00"),
		"a long name":         forged(2, cell(1, 0, 1)+strings.Repeat("n", 4*many-1)+"\x00"+cell(2, 2, 9), ""),
		"a long name of prop": forged(1, cell(1, 0, 3, 0, 0, 2, 9), strings.Repeat("n", 4*many)+"\x00"),
		"many names":          forged(1, cell(1, 0, 2, 9), strings.Repeat("n\x00", many)),
		"a long rest":         wantBlob(two()) + strings.Repeat("\x00", 4*many),
	} {
		var before, behind runtime.MemStats
		runtime.ReadMemStats(&before)
		isNoBlob(t, what, s)
		runtime.ReadMemStats(&behind)
		if laid := behind.TotalAlloc - before.TotalAlloc; laid > 1<<20 {
			t.Errorf("%s: %d bytes were laid", what, laid)
		}
	}
}

// FuzzDecode holds Decode and Look of any bytes against the strict reading.
func FuzzDecode(f *testing.F) {
	for _, l := range [][]api.Node{root(), two(), bushy(), wide(3), deep(5), with(3, 4, 5)} {
		f.Add(wantBlob(l))
	}
	f.Fuzz(func(t *testing.T, s string) { decodedAsTold(t, s) })
}
