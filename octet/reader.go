package octet

import (
	"slices"

	"pendulum/api"
)

// Reader reads numbers and blocks from bytes, up to its first error.
type Reader struct {
	made  bool // tells one that New answered from a zero one
	bytes []byte
	place int
	err   api.Errno
}

// New answers a reader of a copy of b, so that b may be changed behind it.
func New(b []byte) *Reader {
	return &Reader{made: true, bytes: slices.Clone(b)}
}

// Number reads a number.
func (r *Reader) Number() uint64 {
	first, ok := r.take(1)
	if !ok {
		return 0
	}
	if first[0] <= singleMost {
		return uint64(first[0])
	}
	more, ok := r.take(int(first[0]) - singleMost)
	if !ok {
		return 0
	}
	x := lowestFirst(more)
	if more[len(more)-1] == 0 || x <= singleMost {
		r.fail(api.ErrBad)
		return 0
	}
	return x
}

// Signed reads a number that may be below 0.
func (r *Reader) Signed() int64 {
	return unfold(r.Number())
}

// Block reads a block, and answers a copy of its bytes.
func (r *Reader) Block() []byte {
	length := r.Number()
	if length > api.MaxBlock {
		r.fail(api.ErrLong)
		return nil
	}
	p, _ := r.take(int(length))
	return slices.Clone(p)
}

// Count reads a number that is at most most.
func (r *Reader) Count(most int) int {
	n := r.Number()
	if n > uint64(max(most, 0)) {
		r.fail(api.ErrLong)
		return 0
	}
	return int(n)
}

// Left answers how many bytes are left.
func (r *Reader) Left() int {
	if r == nil {
		return 0
	}
	return len(r.bytes) - r.place
}

// Err answers the first error.
func (r *Reader) Err() api.Errno {
	if r == nil || !r.made {
		return api.ErrNil
	}
	return r.err
}

// End answers the first error; bytes that are left are one.
func (r *Reader) End() api.Errno {
	if r.Err() == api.OK && r.Left() > 0 {
		r.fail(api.ErrBad)
	}
	return r.Err()
}

// take reads n bytes, or none of them if there are fewer.
func (r *Reader) take(n int) ([]byte, bool) {
	if r.Err() != api.OK {
		return nil, false
	}
	if n > r.Left() {
		r.fail(api.ErrMore)
		return nil, false
	}
	p := r.bytes[r.place : r.place+n]
	r.place += n
	return p, true
}

// fail is for readers without an error alone: so the first one stays.
func (r *Reader) fail(e api.Errno) {
	r.err = e
}

func lowestFirst(p []byte) uint64 {
	var x uint64
	for i, c := range p {
		x |= uint64(c) << (8 * i)
	}
	return x
}
