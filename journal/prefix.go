package journal

import (
	"iter"

	"quadrat/api"
)

// load keeps the payloads of the valid prefix. It goes on behind the prefix, as a sector that can't be read is an error wherever it lies.
func (j *Journal) load() api.Errno {
	failed, valid := api.OK, inPrefix(j.epoch)
reading:
	for r, e := range j.sectors() {
		switch {
		case e != api.OK:
			failed = e
			break reading
		case valid(r):
			j.payloads = append(j.payloads, r.payload)
		}
	}
	return failed
}

// sectors yields the records of a journal's sectors, as they lie on the disk, each with the error of reading its sector. For a sector of no record, Decode answers nothing, which is the zero one.
func (j *Journal) sectors() iter.Seq2[record, api.Errno] {
	return func(yield func(record, api.Errno) bool) {
		for k := range j.many {
			b, e := j.disk.Read(j.at + k)
			var r record
			r.epoch, r.number, r.payload, _ = Decode(b)
			if !yield(r, e) {
				return
			}
		}
	}
}

// inPrefix answers a test that is to be asked of each sector's record in order: whether the valid prefix has it. It counts what it is asked, and once it has refused a record, it refuses all that lie behind, whatever they tell.
func inPrefix(epoch uint64) func(r record) bool {
	number, whole := uint64(0), true
	return func(r record) bool {
		number++
		whole = whole && r.epoch == epoch && r.number == number
		return whole
	}
}
