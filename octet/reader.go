package octet

import (
	"slices"

	"quadrat/api"
)

// Reader reads bytes; only Read makes one.
type Reader struct {
	left []byte
	// made tells a Reader that Read made of no bytes from a zero one.
	made bool
}

// Read is a reader of b's bytes. It has a copy of them, so that it does not hang on what becomes of b.
func Read(b []byte) *Reader { return &Reader{left: slices.Clone(b), made: true} }

// valid says whether Read made r.
func (r *Reader) valid() bool { return r != nil && r.made }

// next takes the first byte that is left: there must be one.
func (r *Reader) next() byte {
	b := r.left[0]
	r.left = r.left[1:]
	return b
}

// Num reads a number of size bytes.
func (r *Reader) Num(size int) (uint64, api.Errno) {
	if !r.valid() {
		return 0, api.ErrNil
	}
	if !isSize(size) {
		return 0, api.ErrArg
	}
	if len(r.left) < size {
		return 0, api.ErrOctet
	}
	return join(size, r.next), api.OK
}

// Int reads a signed number.
func (r *Reader) Int() (int64, api.Errno) {
	n, e := r.Num(intSize)
	return int64(n), e
}

// Text reads a text's length and its bytes. A copy of r goes ahead, so that r stays where it was if bytes are missing.
func (r *Reader) Text() (string, api.Errno) {
	if !r.valid() {
		return "", api.ErrNil
	}
	ahead := *r
	n, e := ahead.Num(lengthSize)
	if e != api.OK {
		return "", e
	}
	b, e := ahead.Raw(int(n))
	if e != api.OK {
		return "", e
	}
	*r = ahead
	return string(b), api.OK
}

// Raw reads n bytes as they are.
func (r *Reader) Raw(n int) ([]byte, api.Errno) {
	if !r.valid() {
		return nil, api.ErrNil
	}
	if n < 0 {
		return nil, api.ErrArg
	}
	if len(r.left) < n {
		return nil, api.ErrOctet
	}
	b := slices.Clone(r.left[:n])
	r.left = r.left[n:]
	return b, api.OK
}

// Left is how many bytes are left.
func (r *Reader) Left() int {
	if !r.valid() {
		return 0
	}
	return len(r.left)
}

// End answers OK if no byte is left.
func (r *Reader) End() api.Errno {
	if !r.valid() {
		return api.ErrNil
	}
	if len(r.left) > 0 {
		return api.ErrOctet
	}
	return api.OK
}
