package root_test

import (
	"bytes"
	"math"
	"testing"

	"quadrat/api"
	"quadrat/disk"
	"quadrat/root"
)

// ends are numbers of a last Save: each byte of a number turns between one of them and the one before it, or the one before that.
func ends() []uint64 {
	l := []uint64{1, 2, 3, 4, 5, 254, math.MaxUint64 - 1, math.MaxUint64}
	for bit := 8; bit < 64; bit += 8 {
		l = append(l, 1<<bit-1, 1<<bit, 1<<bit+1, 1<<bit+2)
	}
	return l
}

// series is up to k roots that are saved one after the other, and the last of which has the number n.
func series(n uint64, k int, sort func(uint64) api.Root) []api.Root {
	var l []api.Root
	for i := n - min(n, uint64(k)) + 1; i != n+1; i++ {
		l = append(l, sort(i))
	}
	return l
}

// alike is a root that has nothing but its number of its own, so that the fewest bytes can tell it from those before it.
func alike(n uint64) api.Root { return api.Root{N: n, Len: 100, Sum: 5} }

// halves is what a torn sector has.
func halves(at int, cached, old []byte) []byte {
	at = min(max(at, 0), 128)
	return append(bytes.Clone(cached[:at]), old[at:]...)
}

// survives fails unless a crash in the Save of the last root leaves it or the one before it, and leaves it just if its sector became durable.
func survives(t *testing.T, d *disk.Disk, l []api.Root, c api.Crash, became []byte) {
	t.Helper()
	last := l[len(l)-1]
	asked := l[:len(l)-1]
	if bytes.Equal(became, laid(last)) {
		asked = l
	}
	want(t, "Arm", d.Arm(c), api.OK)
	want(t, "Save", root.Save(d, last), api.ErrDown)
	fails(t, "down", d, api.ErrDown)
	want(t, "Boot", d.Boot(), api.OK)
	reads(t, "what became durable", d, int(last.N%2), became)
	first := api.Root{}
	if len(asked) > 0 {
		first = asked[len(asked)-1]
	}
	if r, e := root.Load(d); e != api.OK || r != first {
		t.Errorf("torn at %d: Load: error %d and %v, want %v of %v", c.At, e, r, first, l)
	}
	save(t, d, last)
	if r, e := root.Load(d); e != api.OK || r != last {
		t.Errorf("saved again: Load: error %d and %v, want %v", e, r, last)
	}
}

func TestCrashInTheLastSave(t *testing.T) {
	for _, sort := range []func(uint64) api.Root{of, alike} {
		for _, n := range ends() {
			for k := 1; k <= 4; k++ {
				l := series(n, k, sort)
				start := with(t, 2, l[:len(l)-1]...)
				slot := int(n % 2)
				old, _ := start.Read(slot)
				cached := laid(l[len(l)-1])
				survives(t, start.Copy(), l, api.Crash{Write: 1, Torn: -1}, old)
				survives(t, start.Copy(), l, api.Crash{Write: 1, Torn: 1 - slot, At: 64}, old)
				survives(t, start.Copy(), l, api.Crash{Write: 1, Keep: []int{slot}, Torn: -1}, cached)
				survives(t, start.Copy(), l, api.Crash{Write: 1, Keep: []int{1, 0}, Torn: slot, At: 5}, cached)
				for at := -1; at <= 129; at++ {
					survives(t, start.Copy(), l, api.Crash{Write: 1, Keep: []int{1 - slot}, Torn: slot, At: at}, halves(at, cached, old))
				}
			}
		}
	}
}

// A tear that leaves nothing but bytes which are what they should be anyway, leaves the whole root: 256 ends with a zero byte, as a new disk's sector does.
func TestTearThatIsNotToBeSeen(t *testing.T) {
	for _, c := range []struct {
		n     uint64
		whole int
	}{{1, 128}, {255, 128}, {256, 127}, {65536, 126}, {1 << 32, 124}, {1 << 56, 121}, {1 << 63, 121}} {
		for at := 0; at <= 128; at++ {
			d := made(t, 2)
			want(t, "Arm", d.Arm(api.Crash{Write: 1, Torn: int(c.n % 2), At: at}), api.OK)
			want(t, "Save", root.Save(d, of(c.n)), api.ErrDown)
			want(t, "Boot", d.Boot(), api.OK)
			if at >= c.whole {
				has(t, "all bytes are right", d, of(c.n))
			} else {
				has(t, "a byte is wrong", d)
			}
		}
	}
}

func TestCrashAheadOfASaveAndBehindIt(t *testing.T) {
	for _, c := range []api.Crash{{Torn: -1}, {Torn: 0, At: 64}, {Torn: 1, At: 127}, {Keep: []int{0, 1, 2}, Torn: -1}, {Keep: []int{1}, Torn: 0, At: 1}} {
		d := made(t, 3)
		crash(t, d, c)
		has(t, "ahead of the first Save", d)
		var asked []api.Root
		for n := uint64(1); n < 9; n++ {
			save(t, d, of(n))
			asked = append([]api.Root{of(n)}, asked...)
			asked = asked[:min(2, len(asked))]
			crash(t, d, c)
			has(t, "behind a Save", d, asked...)
			want(t, "Write", d.Write(2, full(byte(n))), api.OK)
			crash(t, d, c)
			has(t, "behind a Save, with another sector pending", d, asked...)
		}
	}
}

// A crash that is armed for a later write finds all that was saved before it.
func TestCrashInALaterSave(t *testing.T) {
	for write := 1; write <= 6; write++ {
		for at := 0; at <= 128; at += 16 {
			d := made(t, 2)
			want(t, "Arm", d.Arm(api.Crash{Write: write, Torn: write % 2, At: at}), api.OK)
			for n := 1; n < write; n++ {
				save(t, d, of(uint64(n)))
			}
			want(t, "Save", root.Save(d, of(uint64(write))), api.ErrDown)
			want(t, "Save on a disk that is down", root.Save(d, of(uint64(write+1))), api.ErrDown)
			want(t, "Boot", d.Boot(), api.OK)
			asked := api.Root{}
			if at == 128 {
				asked = of(uint64(write))
			} else if write > 1 {
				asked = of(uint64(write - 1))
			}
			if r, e := root.Load(d); e != api.OK || r != asked {
				t.Errorf("write %d, torn at %d: error %d and %v, want %v", write, at, e, r, asked)
			}
		}
	}
}

// chance is a crash in the first write from now on, of a slot.
func (r *noise) chance(slot int) api.Crash {
	c := api.Crash{Write: 1, Torn: r.below(4) - 1, At: r.below(140) - 5}
	for at := range 3 {
		if r.below(3) == 0 {
			c.Keep = append(c.Keep, at)
		}
	}
	if r.below(2) == 0 {
		c.Torn = slot
	}
	return c
}

// Over many crashes the disk's root never goes back further than to the root that was saved before the last one.
func TestManyCrashes(t *testing.T) {
	r := noise(4)
	lost, kept := 0, 0
	for range 60 {
		d := made(t, 3)
		now, next := api.Root{}, of(1+r.next()>>(2+r.below(60)))
		for range 40 {
			if attempt(t, &r, d, next) {
				now, next = next, of(next.N+1)
				kept++
			} else {
				lost++
			}
			if got, e := root.Load(d); e != api.OK || got != now {
				t.Fatalf("Load: error %d and %v, want %v", e, got, now)
			}
		}
	}
	if kept < 100 || lost < 100 {
		t.Errorf("%d were kept, %d lost", kept, lost)
	}
}

// attempt saves a root, half of the times with a crash in the write, and says whether its sector became durable.
func attempt(t *testing.T, r *noise, d *disk.Disk, next api.Root) bool {
	t.Helper()
	if r.below(3) == 0 {
		want(t, "Write", d.Write(2, full(byte(r.below(256)))), api.OK)
	}
	if r.below(2) == 0 {
		save(t, d, next)
		return true
	}
	slot := int(next.N % 2)
	want(t, "Arm", d.Arm(r.chance(slot)), api.OK)
	want(t, "Save", root.Save(d, next), api.ErrDown)
	want(t, "Boot", d.Boot(), api.OK)
	b, e := d.Read(slot)
	want(t, "Read", e, api.OK)
	return bytes.Equal(b, laid(next))
}
