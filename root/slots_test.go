package root_test

import (
	"bytes"
	"math"
	"testing"

	"quadrat/api"
	"quadrat/disk"
	"quadrat/root"
)

func TestDisksWithoutARoot(t *testing.T) {
	for _, sectors := range []int{2, 3, 50, 4096} {
		has(t, "a new disk", made(t, sectors))
	}
}

func TestDisksWithoutTwoSlots(t *testing.T) {
	d := made(t, 1)
	fails(t, "one sector", d, api.ErrDisk)
	spoil(t, d, 0, laid(of(2)))
	fails(t, "one sector, with a root", d, api.ErrDisk)
	want(t, "Down", d.Down(api.Crash{Torn: -1}), api.OK)
	fails(t, "one sector, down", d, api.ErrDown)
}

func TestDisksThatThereAreNot(t *testing.T) {
	var zero disk.Disk
	assigned := *with(t, 2, of(1))
	for _, d := range []*disk.Disk{nil, &zero, new(disk.Disk), &assigned, zero.Copy()} {
		fails(t, "no disk", d, api.ErrNil)
		want(t, "Save", root.Save(d, of(1)), api.ErrNil)
		want(t, "Save", root.Save(d, of(2)), api.ErrNil)
		want(t, "Save of what is no root", root.Save(d, api.Root{}), api.ErrRoot)
	}
}

func TestDisksThatAreDown(t *testing.T) {
	for _, saved := range [][]api.Root{nil, {of(1)}, {of(1), of(2)}} {
		d := with(t, 2, saved...)
		want(t, "Down", d.Down(api.Crash{Torn: -1}), api.OK)
		fails(t, "down", d, api.ErrDown)
		want(t, "Boot", d.Boot(), api.OK)
		if r, e := root.Load(d); e != api.OK || r.N != uint64(len(saved)) {
			t.Errorf("behind Boot: error %d and %v", e, r)
		}
	}
}

func TestOneSlotCounts(t *testing.T) {
	for _, n := range numbers() {
		has(t, "one root", with(t, 2, of(n)), of(n))
		d := made(t, 60)
		spoil(t, d, int(n%2), laid(of(n)))
		has(t, "one root, spoilt onto the disk", d, of(n))
	}
}

func TestBothSlotsCount(t *testing.T) {
	for _, one := range numbers() {
		for _, two := range numbers() {
			if one%2 == two%2 {
				continue
			}
			asked := []api.Root{of(max(one, two)), of(min(one, two))}
			has(t, "two roots", with(t, 2, of(one), of(two)), asked...)
			has(t, "two roots, the other way round", with(t, 3, of(two), of(one)), asked...)
		}
	}
}

// The greater number comes first, whatever the roots have beside it.
func TestTheGreaterNumberComesFirst(t *testing.T) {
	small := api.Root{N: 6, Len: 3072, Sum: math.MaxUint32}
	for _, great := range []uint64{7, 9, 1001, 1<<32 + 1, 1<<63 - 1, 1<<63 + 1, math.MaxUint64} {
		has(t, "far apart", with(t, 2, api.Root{N: great}, small), api.Root{N: great}, small)
	}
	has(t, "the lower sector", with(t, 2, of(1<<63), of(3)), of(1<<63), of(3))
}

func TestSlotsOfTheOtherParity(t *testing.T) {
	for _, n := range numbers() {
		d := made(t, 2)
		spoil(t, d, int(1-n%2), laid(of(n)))
		has(t, "the other slot", d)
		other := of(n ^ 1)
		if other.N == 0 {
			other = of(2)
		}
		spoil(t, d, int(n%2), laid(other))
		has(t, "both the other way round", d)
		spoil(t, d, int(n%2), laid(of(n)))
		has(t, "twice the same", d, of(n))
	}
	d := with(t, 3, of(4))
	spoil(t, d, 1, laid(of(8)))
	has(t, "a greater one that does not count", d, of(4))
	spoil(t, d, 2, laid(of(10)))
	spoil(t, d, 0, full(0))
	has(t, "a sector that is no slot", d)
}

// strange is what a slot can have that is no valid root's sector, though it is near to that of the root of the number n.
func strange(n uint64) [][]byte {
	b := laid(of(n))
	flip := func(at int) []byte {
		other := bytes.Clone(b)
		other[at] ^= 1
		return other
	}
	none, long, stuffed, marked := partsOf(of(n)), partsOf(of(n)), partsOf(of(n)), partsOf(of(n))
	none.n, none.again = 0, 0
	long.length = 3073
	stuffed.rest[95] = 1
	marked.mark[3] = 1
	two := partsOf(of(n))
	two.again += 2
	return [][]byte{
		full(0), full(1), full(255), flip(0), flip(11), flip(15), flip(19), flip(20), flip(115), flip(116), flip(119), flip(127),
		none.bytes(), long.bytes(), stuffed.bytes(), marked.bytes(), two.bytes(),
	}
}

func TestSlotsThatDoNotCount(t *testing.T) {
	for _, b := range strange(6) {
		d := with(t, 2, of(5), of(6))
		spoil(t, d, 0, b)
		has(t, "the even slot is spoilt", d, of(5))
		for _, other := range strange(5) {
			spoil(t, d, 1, other)
			has(t, "both slots are spoilt", d)
		}
		spoil(t, d, 0, laid(of(4)))
		has(t, "the odd slot is spoilt", d, of(4))
		save(t, d, of(5))
		has(t, "saved again", d, of(5), of(4))
	}
}

// What is pending is read, as on any disk; a slot's old content comes back with a crash.
func TestSlotsThatArePending(t *testing.T) {
	d := with(t, 2, of(1), of(2))
	want(t, "Write", d.Write(1, laid(of(3))), api.OK)
	has(t, "pending", d, of(3), of(2))
	want(t, "Write", d.Write(0, full(7)), api.OK)
	has(t, "both pending", d, of(3))
	crash(t, d, api.Crash{Torn: -1})
	has(t, "behind a crash", d, of(2), of(1))
}

func TestExamples(t *testing.T) {
	has(t, "a new disk of 2 sectors", made(t, 2))
	_, e := root.Load(made(t, 1))
	want(t, "Load of one of 1 sector", e, api.ErrDisk)
	d := made(t, 2)
	want(t, "Save of N 1", root.Save(d, api.Root{N: 1}), api.OK)
	want(t, "Save of N 2", root.Save(d, api.Root{N: 2}), api.OK)
	if r, e := root.Load(d); e != api.OK || r.N != 2 {
		t.Errorf("Load: error %d and %v", e, r)
	}
	if root.Area(2) != 2 || root.Area(3) != 26 {
		t.Errorf("the areas are %d and %d", root.Area(2), root.Area(3))
	}
	want(t, "Save of N 0", root.Save(d, api.Root{}), api.ErrRoot)
	want(t, "Save of Len 3073", root.Save(d, api.Root{N: 3, Len: 3073}), api.ErrRoot)
	_, e = root.Decode(make([]byte, 128))
	want(t, "Decode of 128 zero bytes", e, api.ErrRoot)
}
