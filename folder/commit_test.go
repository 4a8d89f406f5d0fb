package folder_test

import (
	"testing"

	"quadrat/api"
	"quadrat/disk"
	"quadrat/folder"
)

// filledDisk is a disk each sector of which, but the slots, has bytes that are no zeros.
func filledDisk(t *testing.T, sectors int) *disk.Disk {
	t.Helper()
	d := made(t, sectors)
	for at := 2; at < sectors; at++ {
		want(t, "Spoil", d.Spoil(at, full(0xA5)), api.OK)
	}
	return d
}

// someSizes are sizes of encodings: those that fill their sectors just, and those around them.
func someSizes() []int {
	l := []int{45, 64, 127, 128, 129, 255, 256, 257}
	for n := 384; n <= 1408; n += 128 {
		l = append(l, n-1, n, n+1)
	}
	return append(l, 1484, 1485)
}

// What a Commit leaves on a disk, sector by sector.
func TestCommit(t *testing.T) {
	for _, size := range someSizes() {
		for _, n := range []uint64{1, 2, 255, 256, 1<<64 - 2, 1<<64 - 1} {
			f := sized(n, size)
			d := filledDisk(t, 60)
			commit(t, d, f)
			sectors := (size + 127) / 128
			if d.Writes() != sectors+1 || len(d.Waits()) != 0 {
				t.Errorf("%d bytes: %d writes, and %v are pending", size, d.Writes(), d.Waits())
			}
			reads(t, "the area", d, area(n), padded(laid(f)))
			reads(t, "the slot", d, int(n%2), rooted(f))
			reads(t, "the other slot", d, 1-int(n%2), full(0))
			for at := 2; at < 60; at++ {
				if at < area(n) || at >= area(n)+sectors {
					reads(t, "another sector", d, at, full(0xA5))
				}
			}
			has(t, "committed", d, f)
		}
	}
}

func TestCommitsFollowOneAnother(t *testing.T) {
	for _, start := range []uint64{1, 2, 254, 1 << 32, 1<<64 - 12} {
		d := made(t, 50)
		for n := start; n < start+11; n++ {
			f := of(n)
			commit(t, d, f)
			has(t, "the last one", d, f)
		}
	}
	d := made(t, 50)
	for i, size := range []int{1485, 45, 1408, 128, 64, 1485, 45} {
		f := sized(uint64(i+1), size)
		commit(t, d, f)
		has(t, "longer and shorter ones", d, f)
	}
}

// Numbers need not increase: the greater one counts, and the same one is replaced.
func TestCommitsOfAnyNumbers(t *testing.T) {
	d := with(t, 50, of(7), of(4))
	has(t, "the greater one", d, of(7))
	commit(t, d, alike(7))
	has(t, "the same number", d, alike(7))
	commit(t, d, of(5))
	has(t, "a lower number in the same slot", d, of(5))
	commit(t, d, of(100))
	has(t, "a far number", d, of(100))
}

// The sectors are written in order: after each write, those up to it are there, and nothing else is.
func TestOrderOfWrites(t *testing.T) {
	keep := make([]int, 60)
	for at := range keep {
		keep[at] = at
	}
	for _, size := range []int{45, 128, 129, 700, 1408, 1485} {
		for _, n := range []uint64{1, 2} {
			f := sized(n, size)
			b := padded(laid(f))
			for write := 1; write <= len(b)/128; write++ {
				d := filledDisk(t, 60)
				want(t, "Arm", d.Arm(api.Crash{Write: write, Keep: keep}), api.OK)
				want(t, "Commit", folder.Commit(d, f), api.ErrDown)
				if d.Writes() != write {
					t.Errorf("%d writes, want %d", d.Writes(), write)
				}
				want(t, "Boot", d.Boot(), api.OK)
				reads(t, "written", d, area(n), b[:128*write])
				for at := area(n) + write; at < 60; at++ {
					reads(t, "not written yet", d, at, full(0xA5))
				}
				fails(t, "no root yet", d, api.ErrFolder)
			}
		}
	}
}

// The area is durable ahead of the root's write, and the root behind the Commit.
func TestFlushes(t *testing.T) {
	for _, n := range []uint64{1, 2} {
		f := sized(n, 700)
		d := filledDisk(t, 60)
		want(t, "Arm", d.Arm(api.Crash{Write: 7, Torn: -1}), api.OK)
		want(t, "Commit", folder.Commit(d, f), api.ErrDown)
		want(t, "Boot", d.Boot(), api.OK)
		reads(t, "the area", d, area(n), padded(laid(f)))
		reads(t, "the slot", d, int(n%2), full(0))
		commit(t, d, f)
		want(t, "Down", d.Down(api.Crash{Torn: -1}), api.OK)
		want(t, "Boot", d.Boot(), api.OK)
		has(t, "behind a crash that keeps nothing", d, f)
	}
}

// What was pending ahead of a Commit is durable with it.
func TestCommitFlushesAll(t *testing.T) {
	d := made(t, 60)
	want(t, "Write", d.Write(55, full(7)), api.OK)
	commit(t, d, of(1))
	want(t, "Down", d.Down(api.Crash{Torn: -1}), api.OK)
	want(t, "Boot", d.Boot(), api.OK)
	reads(t, "what was pending", d, 55, full(7))
}

func TestCommitOnADiskThatIsTooSmall(t *testing.T) {
	for _, n := range []uint64{1, 2} {
		for _, size := range []int{45, 128, 129, 700, 1485} {
			f := sized(n, size)
			b := padded(laid(f))
			end := area(n) + len(b)/128
			commit(t, made(t, end), f)
			has(t, "just large enough", with(t, end, f), f)
			for sectors := 1; sectors < end; sectors++ {
				d := made(t, sectors)
				want(t, "too small", folder.Commit(d, f), api.ErrDisk)
				written := max(0, sectors-area(n))
				if d.Writes() != written || len(d.Waits()) != written {
					t.Errorf("%d sectors: %d writes, and %v are pending", sectors, d.Writes(), d.Waits())
				}
				reads(t, "what goes there", d, area(n), b[:128*written])
				if sectors == 1 {
					fails(t, "no slots", d, api.ErrDisk)
				} else {
					fails(t, "no root", d, api.ErrFolder)
				}
			}
		}
	}
}

// A disk may have another size than the setting tells of.
func TestCommitHangsOnTheAreaAlone(t *testing.T) {
	f := plain()
	f.Set.Sectors = 4096
	commit(t, made(t, 28), f)
	has(t, "a small disk", with(t, 28, f), f)
	f.Set.Sectors = 100
	has(t, "a great disk", with(t, 4096, f), f)
}

// A folder that can't be committed leaves the one that is there.
func TestCommitThatFails(t *testing.T) {
	d := with(t, 27, sized(1, 128))
	want(t, "too small for it", folder.Commit(d, sized(3, 129)), api.ErrDisk)
	want(t, "Down", d.Down(api.Crash{Torn: -1}), api.OK)
	want(t, "Boot", d.Boot(), api.OK)
	has(t, "what was there", d, sized(1, 128))
	d = with(t, 50, of(1), of(2))
	bad := of(3)
	bad.Next = 0
	want(t, "not valid", folder.Commit(d, bad), api.ErrFolder)
	has(t, "what was there", d, of(2))
	bad.Next, bad.N = 8, 0
	want(t, "N of 0", folder.Commit(d, bad), api.ErrFolder)
	has(t, "what was there", d, of(2))
}

func TestDiskThatIsDown(t *testing.T) {
	d := with(t, 50, of(1))
	want(t, "Down", d.Down(api.Crash{Torn: -1}), api.OK)
	want(t, "down", folder.Commit(d, of(2)), api.ErrDown)
	want(t, "down, and not valid", folder.Commit(d, api.Folder{}), api.ErrFolder)
	fails(t, "down", d, api.ErrDown)
	want(t, "Boot", d.Boot(), api.OK)
	has(t, "up again", d, of(1))
	small := made(t, 1)
	want(t, "Down", small.Down(api.Crash{Torn: -1}), api.OK)
	want(t, "down, and too small", folder.Commit(small, of(2)), api.ErrDown)
	fails(t, "down, and too small", small, api.ErrDown)
}

func TestNoDisk(t *testing.T) {
	mere := *made(t, 50)
	for _, d := range []*disk.Disk{nil, {}, &mere} {
		want(t, "no disk", folder.Commit(d, plain()), api.ErrNil)
		want(t, "no disk, and not valid", folder.Commit(d, api.Folder{}), api.ErrFolder)
		fails(t, "no disk", d, api.ErrNil)
	}
}
