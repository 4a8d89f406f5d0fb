package disk

import (
	"iter"
	"slices"

	"quadrat/api"
)

// Arm lets the disk go down by a crash in a later call of Write. A crash that was armed before is forgotten.
func (d *Disk) Arm(c api.Crash) api.Errno {
	if !d.valid() {
		return api.ErrNil
	}
	if c.Write < 1 {
		return api.ErrArg
	}
	d.armed = c
	d.armed.Keep = slices.Clone(c.Keep)
	return api.OK
}

// Down lets the disk go down by a crash at once.
func (d *Disk) Down(c api.Crash) api.Errno {
	if e := d.usable(); e != api.OK {
		return e
	}
	d.fall(c)
	return api.OK
}

// Boot lets the disk be up again.
func (d *Disk) Boot() api.Errno {
	if !d.valid() {
		return api.ErrNil
	}
	d.down = false
	return api.OK
}

// Up says whether the disk is up.
func (d *Disk) Up() bool { return d.valid() && !d.down }

// due counts a write for the crash that is armed, and says whether it is the crash's.
func (d *Disk) due() bool {
	if d.armed.Write == 0 {
		return false
	}
	d.armed.Write--
	return d.armed.Write == 0
}

// fall lets the disk go down: what the crash does not save of the cache is lost.
func (d *Disk) fall(c api.Crash) {
pending:
	for at, saved := range d.fates(c) {
		if saved == 0 {
			continue pending
		}
		cached := d.cache[at]
		copy(d.durable[at][:saved], cached[:])
	}
	clear(d.cache)
	d.armed = api.Crash{}
	d.down = true
}

// fates yields the pending sectors, the lowest one first, each with how many of its first bytes a crash saves.
func (d *Disk) fates(c api.Crash) iter.Seq2[int, int] {
	kept := d.marked(c.Keep)
	torn := min(max(c.At, 0), api.Sector)
	return func(yield func(int, int) bool) {
		for _, at := range d.Waits() {
			saved := 0
			switch {
			case kept[at]:
				saved = api.Sector
			case at == c.Torn:
				saved = torn
			}
			if !yield(at, saved) {
				return
			}
		}
	}
}

// marked says of each sector whether the list names it. The list is gone through once, however long it is; numbers of no sector are left out.
func (d *Disk) marked(list []int) []bool {
	is := make([]bool, len(d.durable))
	for _, at := range list {
		if d.has(at) {
			is[at] = true
		}
	}
	return is
}
