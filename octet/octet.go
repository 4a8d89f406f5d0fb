// Package octet is layer 1: numbers and texts as bytes; see shared/doc/01-octet.md.
package octet

import "iter"

// intSize is how many bytes a signed number has, which is also the most that any number has; lengthSize is how many a text's length has.
const (
	intSize    = 8
	lengthSize = 2
)

// isSize says whether numbers may have so many bytes.
func isSize(size int) bool {
	switch size {
	case 1, 2, 4, 8:
		return true
	}
	return false
}

// fits says whether n goes into size bytes. A shift by all 64 bits leaves 0, so everything goes into 8.
func fits(size int, n uint64) bool { return n>>(8*size) == 0 }

// lowFirst yields n's bytes, the lowest one first, and then zeros without end: it does not know how many of them count, so whoever asks must leave.
func lowFirst(n uint64) iter.Seq[byte] {
	return func(yield func(byte) bool) {
		for rest := n; yield(byte(rest)); rest >>= 8 {
		}
	}
}

// join is the number of the next size bytes, the highest one first.
func join(size int, next func() byte) uint64 {
	n := uint64(0)
	for range size {
		n = n<<8 | uint64(next())
	}
	return n
}
