package disk_test

import (
	"slices"
	"testing"

	"quadrat/api"
	"quadrat/disk"
)

// content is what all sectors have; the disk must be up.
func content(t *testing.T, d *disk.Disk) [][]byte {
	t.Helper()
	all := make([][]byte, d.Size())
	for at := range all {
		b, e := d.Read(at)
		want(t, "Read", e, api.OK)
		all[at] = b
	}
	return all
}

// has fails unless the sectors have just that.
func has(t *testing.T, what string, d *disk.Disk, asked [][]byte) {
	t.Helper()
	for at, b := range asked {
		reads(t, what, d, at, b)
	}
}

// busy is a disk with sectors that were flushed, and with sectors of which some are pending; two of them are both.
func busy(t *testing.T, x *noise, sectors int) *disk.Disk {
	t.Helper()
	d := made(t, sectors)
	for range sectors {
		write(t, d, x.below(sectors), byte(x.below(256)))
	}
	want(t, "Flush", d.Flush(), api.OK)
	for range sectors / 2 {
		write(t, d, x.below(sectors), byte(x.below(256)))
	}
	return d
}

func TestWhatWasFlushedIsReadAfterAnyCrash(t *testing.T) {
	x := noise(1)
	for range 200 {
		d := busy(t, &x, 9)
		want(t, "Flush", d.Flush(), api.OK)
		flushed := content(t, d)
		since := []int{x.below(9), x.below(9)}
		for _, at := range since {
			write(t, d, at, byte(x.below(256)))
		}
		crash(t, d, x.crash(9))
		for at, b := range flushed {
			if !slices.Contains(since, at) {
				reads(t, "flushed", d, at, b)
			}
		}
	}
}

func TestCrashThatKeepsAllHasTheEffectOfFlush(t *testing.T) {
	x := noise(2)
	for range 100 {
		d := busy(t, &x, 9)
		c := d.Copy()
		want(t, "Flush", c.Flush(), api.OK)
		keep := d.Waits()
		slices.Reverse(keep)
		crash(t, d, api.Crash{Keep: keep, Torn: x.below(9), At: x.below(128)})
		has(t, "all kept", d, content(t, c))
		waits(t, "flushed", c)
	}
}

func TestCrashThatKeepsNoneLeavesTheDurableContent(t *testing.T) {
	x := noise(3)
	for range 100 {
		d := busy(t, &x, 9)
		want(t, "Flush", d.Flush(), api.OK)
		before := content(t, d)
		for range x.below(12) {
			write(t, d, x.below(9), byte(x.below(256)))
		}
		crash(t, d, api.Crash{Torn: x.below(9), At: -x.below(2)})
		has(t, "none kept", d, before)
		crash(t, d, none())
		has(t, "none kept, none pending", d, before)
	}
}

func TestOrderOfWritesMakesNoDifferenceToACrash(t *testing.T) {
	const sectors = 9
	x := noise(4)
	for range 100 {
		start := busy(t, &x, sectors)
		want(t, "Flush", start.Flush(), api.OK)
		order := make([]int, sectors)
		for i := range order {
			order[i] = i
		}
		c := x.crash(sectors)
		var first [][]byte
		for range 4 {
			d := start.Copy()
			for i := range order {
				k := i + x.below(sectors-i)
				order[i], order[k] = order[k], order[i]
				write(t, d, order[i], byte(200+order[i]))
			}
			crash(t, d, c)
			if first == nil {
				first = content(t, d)
			}
			has(t, "in another order", d, first)
		}
	}
}

func TestExamples(t *testing.T) {
	a, b := full(1), full(2)
	d := made(t, 3)
	want(t, "Write(0, A)", d.Write(0, a), api.OK)
	want(t, "Write(2, A)", d.Write(2, a), api.OK)
	want(t, "Write(0, B)", d.Write(0, b), api.OK)
	waits(t, "the first example", d, 0, 2)
	reads(t, "the first example", d, 0, b)
	want(t, "Down", d.Down(api.Crash{Keep: []int{2}, Torn: 0, At: 10}), api.OK)
	_, e := d.Read(0)
	want(t, "Read(0)", e, api.ErrDown)
	want(t, "Boot", d.Boot(), api.OK)
	reads(t, "the second example", d, 0, mixed(10, 2, 0))
	reads(t, "the second example", d, 2, a)
	want(t, "Arm", d.Arm(api.Crash{Write: 2}), api.OK)
	want(t, "Write(1, A)", d.Write(1, a), api.OK)
	want(t, "Write(0, A)", d.Write(0, a), api.ErrDown)
	up(t, "the third example", d, false)
}
