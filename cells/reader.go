package cells

import (
	"bytes"

	"reveille/api"
)

// Reader reads a value from its front.
type Reader struct {
	left []byte
}

// New makes a reader of a value.
func New(v string) *Reader { return &Reader{left: []byte(v)} }

// Left is how many bytes are left.
func (r *Reader) Left() int {
	if r == nil {
		return 0
	}
	return len(r.left)
}

// Cell is the next cell.
func (r *Reader) Cell() (uint32, api.Errno) {
	n, e := r.Wide(1)
	return uint32(n), e
}

// Wide is the number that the next few cells are.
func (r *Reader) Wide(n int) (uint64, api.Errno) {
	switch {
	case r == nil:
		return 0, api.ErrNil
	case n < 0 || n > pairCells:
		return 0, api.ErrArg
	case len(r.left) < n*cellBytes:
		return 0, api.ErrForm
	}
	number := uint64(0)
	for range n {
		number <<= cellBits
		number |= uint64(cellOf([cellBytes]byte(r.left[:cellBytes])))
		r.left = r.left[cellBytes:]
	}
	return number, api.OK
}

// Text is the next text.
func (r *Reader) Text() (string, api.Errno) {
	if r == nil {
		return "", api.ErrNil
	}
	end := bytes.IndexByte(r.left, 0)
	if end < 0 {
		return "", api.ErrForm
	}
	s := string(r.left[:end])
	r.left = r.left[end+1:]
	return s, api.OK
}
