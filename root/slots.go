package root

import (
	"cmp"
	"iter"
	"slices"

	"quadrat/api"
	"quadrat/disk"
)

// slotCount is how many slots a disk has: its first sectors.
const slotCount = 2

// slotOf is the slot that a number has its turn in.
func slotOf(n uint64) int { return int(n % slotCount) }

// slot is one of a disk's, with what it holds.
type slot struct {
	at      int
	content []byte
}

// slots yields a disk's slots in order, each with the error of reading it.
func slots(d *disk.Disk) iter.Seq2[slot, api.Errno] {
	return func(yield func(slot, api.Errno) bool) {
		for at := range slotCount {
			b, e := d.Read(at)
			if !yield(slot{at: at, content: b}, e) {
				return
			}
		}
	}
}

// root is what a slot counts with, if it does.
func (s slot) root() (api.Root, bool) {
	r, e := Decode(s.content)
	if e != api.OK || slotOf(r.N) != s.at {
		return api.Root{}, false
	}
	return r, true
}

// number is a root's.
type number uint64

// falling holds a number against another one: below 0 if it is the greater one, and so comes first.
func (n number) falling(other number) int { return cmp.Compare(other, n) }

// order lays roots into the order of their numbers that is asked for.
func order(list []api.Root, by func(one, two number) int) {
	slices.SortFunc(list, func(one, two api.Root) int {
		return by(number(one.N), number(two.N))
	})
}
