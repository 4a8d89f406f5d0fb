package octet

import (
	"slices"

	"quadrat/api"
)

// Writer has written bytes; the zero one has written none.
type Writer struct {
	written []byte
	// used is how many bytes of the array below written are taken. Copies of a Writer share both: the first of them that goes on writes into the array, and the others see by used that they must leave it, so that none writes over another one's bytes.
	used *int
}

// put lays bytes behind those that were written.
func (w *Writer) put(b []byte) {
	if w.used == nil || *w.used != len(w.written) {
		w.written = slices.Clone(w.written)
		w.used = new(int)
	}
	w.written = append(w.written, b...)
	*w.used = len(w.written)
}

// Num writes a number of size bytes, the highest one first.
func (w *Writer) Num(size int, n uint64) api.Errno {
	if w == nil {
		return api.ErrNil
	}
	if !isSize(size) {
		return api.ErrArg
	}
	if !fits(size, n) {
		return api.ErrOctet
	}
	var room [intSize]byte
	at := size
fill:
	for b := range lowFirst(n) {
		at--
		room[at] = b
		if at == 0 {
			break fill
		}
	}
	w.put(room[:size])
	return api.OK
}

// Int writes a signed number.
func (w *Writer) Int(n int64) api.Errno { return w.Num(intSize, uint64(n)) }

// Text writes a text's length and its bytes.
func (w *Writer) Text(s string) api.Errno {
	if w == nil {
		return api.ErrNil
	}
	if len(s) > api.MaxText {
		return api.ErrOctet
	}
	if e := w.Num(lengthSize, uint64(len(s))); e != api.OK {
		return e
	}
	return w.Raw([]byte(s))
}

// Raw writes bytes as they are.
func (w *Writer) Raw(b []byte) api.Errno {
	if w == nil {
		return api.ErrNil
	}
	w.put(b)
	return api.OK
}

// Len is how many bytes were written.
func (w *Writer) Len() int {
	if w == nil {
		return 0
	}
	return len(w.written)
}

// Bytes are what was written, as a copy.
func (w *Writer) Bytes() []byte {
	if w == nil {
		return nil
	}
	return slices.Clone(w.written)
}
