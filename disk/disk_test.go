package disk_test

import (
	"math"
	"testing"

	"quadrat/api"
	"quadrat/disk"
)

func TestNew(t *testing.T) {
	for _, n := range []int{1, 2, 3, 100, api.MaxSectors - 1, api.MaxSectors} {
		d := made(t, n)
		if d.Size() != n {
			t.Errorf("Size is %d, want %d", d.Size(), n)
		}
		up(t, "a new disk", d, true)
		waits(t, "a new disk", d)
		counted(t, "a new disk", d, 0)
		reads(t, "a new disk", d, 0, full(0))
		reads(t, "a new disk", d, n-1, full(0))
	}
}

func TestNewOfOtherSizes(t *testing.T) {
	for _, n := range []int{math.MinInt, -1, 0, api.MaxSectors + 1, 1 << 20, math.MaxInt} {
		d, e := disk.New(n)
		want(t, "New", e, api.ErrDisk)
		if d != nil {
			t.Errorf("New(%d) is a disk", n)
		}
	}
}

func TestSizeStays(t *testing.T) {
	d := made(t, 5)
	write(t, d, 4, 1)
	crash(t, d, none())
	if d.Size() != 5 || d.Copy().Size() != 5 {
		t.Errorf("Size is %d, that of a copy %d", d.Size(), d.Copy().Size())
	}
}

// Of a sector that there is not, and of bytes that are no sector's, nothing may be cached, counted or read.
func TestSectorsThatThereAreNot(t *testing.T) {
	for _, n := range []int{1, 3, api.MaxSectors} {
		d := made(t, n)
		for _, at := range []int{math.MinInt, -n, -1, n, n + 1, api.MaxSectors, math.MaxInt} {
			want(t, "Write", d.Write(at, full(1)), api.ErrDisk)
			want(t, "Write of no bytes", d.Write(at, nil), api.ErrDisk)
			want(t, "Spoil", d.Spoil(at, full(1)), api.ErrDisk)
			b, e := d.Read(at)
			want(t, "Read", e, api.ErrDisk)
			if len(b) != 0 {
				t.Errorf("Read(%d) is % X", at, b)
			}
		}
		waits(t, "behind errors", d)
		counted(t, "behind errors", d, 0)
		for _, at := range []int{0, n - 1} {
			reads(t, "behind errors", d, at, full(0))
		}
	}
}

func TestBytesThatAreNoSector(t *testing.T) {
	d := made(t, 2)
	write(t, d, 1, 5)
	for _, n := range []int{0, 1, 64, api.Sector - 1, api.Sector + 1, 2 * api.Sector} {
		for at := range 2 {
			want(t, "Write", d.Write(at, make([]byte, n)), api.ErrDisk)
			want(t, "Spoil", d.Spoil(at, make([]byte, n)), api.ErrDisk)
		}
	}
	want(t, "Write of nil", d.Write(0, nil), api.ErrDisk)
	want(t, "Spoil of nil", d.Spoil(0, nil), api.ErrDisk)
	waits(t, "behind errors", d, 1)
	counted(t, "behind errors", d, 1)
	reads(t, "behind errors", d, 0, full(0))
	reads(t, "behind errors", d, 1, full(5))
	durable(t, "behind errors", d, 1, full(0))
}

func TestFirstAndLastSector(t *testing.T) {
	for _, n := range []int{2, 3, api.MaxSectors} {
		d := made(t, n)
		write(t, d, n-1, 7)
		write(t, d, 0, 3)
		waits(t, "both ends", d, 0, n-1)
		reads(t, "the first", d, 0, full(3))
		reads(t, "the last", d, n-1, full(7))
		crash(t, d, api.Crash{Keep: []int{n - 1}, Torn: 0, At: 5})
		reads(t, "the first, torn", d, 0, mixed(5, 3, 0))
		reads(t, "the last, kept", d, n-1, full(7))
		if n > 2 {
			reads(t, "another one", d, 1, full(0))
		}
	}
}

func TestOnlySector(t *testing.T) {
	d := made(t, 1)
	write(t, d, 0, 9)
	waits(t, "the only sector", d, 0)
	crash(t, d, none())
	reads(t, "lost", d, 0, full(0))
	write(t, d, 0, 8)
	crash(t, d, api.Crash{Keep: []int{0}})
	reads(t, "kept", d, 0, full(8))
}

func TestAllSectorsOfTheGreatestDisk(t *testing.T) {
	d := made(t, api.MaxSectors)
	asked := make([]int, api.MaxSectors)
	for at := range asked {
		asked[at] = at
		other := at * 1021 % api.MaxSectors // each once, in another order
		write(t, d, other, byte(other%251+1))
	}
	waits(t, "all of them", d, asked...)
	counted(t, "all of them", d, api.MaxSectors)
	want(t, "Flush", d.Flush(), api.OK)
	waits(t, "flushed", d)
	for at := range asked {
		durable := full(byte(at%251 + 1))
		reads(t, "flushed", d, at, durable)
	}
}

func TestSectorWrittenTwice(t *testing.T) {
	d := made(t, 3)
	write(t, d, 1, 1)
	write(t, d, 1, 2)
	waits(t, "written twice", d, 1)
	counted(t, "written twice", d, 2)
	reads(t, "written twice", d, 1, full(2))
	durable(t, "written twice", d, 1, full(0))
	want(t, "Flush", d.Flush(), api.OK)
	durable(t, "flushed", d, 1, full(2))
	write(t, d, 1, 3)
	write(t, d, 1, 4)
	crash(t, d, api.Crash{Torn: 1, At: 100})
	reads(t, "torn", d, 1, mixed(100, 4, 2)) // of the last write and of what was flushed, nothing of the write between
}

func TestReadOfCacheAndOfDurableContent(t *testing.T) {
	d := made(t, 2)
	write(t, d, 0, 1)
	reads(t, "pending", d, 0, full(1))
	reads(t, "never written", d, 1, full(0))
	want(t, "Flush", d.Flush(), api.OK)
	reads(t, "flushed", d, 0, full(1))
	write(t, d, 0, 2)
	reads(t, "pending again", d, 0, full(2))
	durable(t, "pending again", d, 0, full(1))
	write(t, d, 0, 0)
	reads(t, "pending, all zeros", d, 0, full(0))
	durable(t, "pending, all zeros", d, 0, full(1))
}

func TestEachByteHasItsPlace(t *testing.T) {
	d := made(t, 2)
	b := make([]byte, api.Sector)
	for i := range b {
		b[i] = byte(i*2 + 1)
	}
	want(t, "Write", d.Write(1, b), api.OK)
	reads(t, "pending", d, 1, b)
	want(t, "Flush", d.Flush(), api.OK)
	reads(t, "flushed", d, 1, b)
	want(t, "Spoil", d.Spoil(0, b), api.OK)
	reads(t, "spoilt", d, 0, b)
}

func TestFlush(t *testing.T) {
	d := made(t, 4)
	want(t, "Flush of nothing", d.Flush(), api.OK)
	for at := range 3 {
		write(t, d, at, byte(at+1))
	}
	want(t, "Flush", d.Flush(), api.OK)
	waits(t, "flushed", d)
	counted(t, "flushed", d, 3)
	up(t, "flushed", d, true)
	want(t, "Flush again", d.Flush(), api.OK)
	write(t, d, 3, 9)
	for at := range 3 {
		durable(t, "flushed", d, at, full(byte(at+1)))
	}
	durable(t, "written since", d, 3, full(0))
}

func TestWaitsAreInOrder(t *testing.T) {
	d := made(t, 300)
	for _, at := range []int{299, 5, 128, 0, 7, 5, 200, 1} {
		write(t, d, at, 1)
	}
	for range 20 { // a map is gone through in another order each time
		waits(t, "in order", d, 0, 1, 5, 7, 128, 200, 299)
	}
}

func TestWritesAreCounted(t *testing.T) {
	d := made(t, 2)
	write(t, d, 0, 1)
	write(t, d, 0, 1)
	want(t, "Write of another sector", d.Write(2, full(1)), api.ErrDisk)
	want(t, "Write of other bytes", d.Write(0, full(1)[1:]), api.ErrDisk)
	counted(t, "two", d, 2)
	want(t, "Arm", d.Arm(api.Crash{Write: 1}), api.OK)
	want(t, "Write", d.Write(1, full(1)), api.ErrDown)
	counted(t, "a write that brings the disk down", d, 3)
	want(t, "Write", d.Write(1, full(1)), api.ErrDown)
	counted(t, "a write of a disk that is down", d, 3)
	boot(t, d)
	counted(t, "booted", d, 3)
	want(t, "Spoil", d.Spoil(0, full(4)), api.OK)
	counted(t, "spoilt", d, 3)
	write(t, d, 1, 1)
	counted(t, "four", d, 4)
	want(t, "Flush", d.Flush(), api.OK)
	counted(t, "flushed", d, 4)
}

func TestSpoil(t *testing.T) {
	d := made(t, 3)
	want(t, "Spoil", d.Spoil(2, full(6)), api.OK)
	reads(t, "spoilt", d, 2, full(6))
	waits(t, "spoilt", d)
	durable(t, "spoilt", d, 2, full(6))
	reads(t, "its neighbour", d, 1, full(0))
}

func TestSpoilOfAPendingSector(t *testing.T) {
	d := made(t, 2)
	write(t, d, 1, 1)
	want(t, "Spoil", d.Spoil(1, full(6)), api.OK)
	waits(t, "spoilt", d, 1)
	reads(t, "spoilt", d, 1, full(1))
	durable(t, "spoilt", d, 1, full(6))
	c := d.Copy()
	crash(t, c, api.Crash{Torn: 1, At: 3})
	reads(t, "spoilt, then torn", c, 1, mixed(3, 1, 6))
	want(t, "Flush", d.Flush(), api.OK)
	durable(t, "spoilt, then flushed", d, 1, full(1))
}

func TestSpoilWhileDown(t *testing.T) {
	d := made(t, 2)
	write(t, d, 0, 1)
	want(t, "Down", d.Down(none()), api.OK)
	want(t, "Spoil", d.Spoil(0, full(6)), api.OK)
	want(t, "Spoil of another sector", d.Spoil(2, full(6)), api.ErrDisk)
	want(t, "Spoil of other bytes", d.Spoil(0, full(6)[1:]), api.ErrDisk)
	up(t, "spoilt", d, false)
	boot(t, d)
	reads(t, "spoilt while down", d, 0, full(6))
}

func TestSpoilIsNotCountedForACrash(t *testing.T) {
	d := made(t, 2)
	want(t, "Arm", d.Arm(api.Crash{Write: 1, Keep: []int{1}}), api.OK)
	want(t, "Spoil", d.Spoil(0, full(6)), api.OK)
	up(t, "spoilt", d, true)
	want(t, "Write", d.Write(1, full(2)), api.ErrDown)
}
