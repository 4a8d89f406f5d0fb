package folder_test

import (
	"bytes"
	"fmt"
	"slices"
	"testing"

	"quadrat/api"
	"quadrat/disk"
	"quadrat/folder"
)

// series is up to k folders that are committed one after the other, the last of which has the number n, and an encoding of so many bytes.
func series(n uint64, k, size int, sort func(uint64) api.Folder) []api.Folder {
	var l []api.Folder
	for i := n - min(n, uint64(k)) + 1; i != n; i++ {
		l = append(l, sort(i))
	}
	return append(l, sized(n, size))
}

// survives fails unless a crash in the Commit of the last folder leaves it, or the one before it: the last one just if the crash was in the write of its root, and the root became durable.
func survives(t *testing.T, start *disk.Disk, l []api.Folder, c api.Crash) {
	t.Helper()
	d, last, asked := start.Copy(), l[len(l)-1], api.Folder{}
	if len(l) > 1 {
		asked = l[len(l)-2]
	}
	want(t, "Arm", d.Arm(c), api.OK)
	want(t, "Commit", folder.Commit(d, last), api.ErrDown)
	fails(t, "down", d, api.ErrDown)
	want(t, "Boot", d.Boot(), api.OK)
	slot, e := d.Read(int(last.N % 2))
	want(t, "Read", e, api.OK)
	if bytes.Equal(slot, rooted(last)) {
		asked = last
	}
	is(t, fmt.Sprintf("behind %v", c), d, asked)
	commit(t, d, last)
	has(t, "committed again", d, last)
	next := of(last.N + 1)
	if next.N > 0 {
		commit(t, d, next)
		has(t, "committed next", d, next)
	}
}

// parted yields the crashes in that write in which each of the pending sectors is kept, torn or lost; of at most one of them some bytes become durable.
func parted(write int, pending []int, tears []int) []api.Crash {
	var l []api.Crash
	for set := range 1 << len(pending) {
		var keep []int
		for i, at := range pending {
			if set>>i&1 == 1 {
				keep = append(keep, at)
			}
		}
		l = append(l, api.Crash{Write: write, Keep: keep, Torn: -1})
		for i, at := range pending {
			for _, tear := range tears {
				if set>>i&1 == 0 {
					l = append(l, api.Crash{Write: write, Keep: keep, Torn: at, At: tear})
				}
			}
		}
	}
	return l
}

// crashes yields those in each write of a Commit of a folder, with all that may become of what is pending.
func crashes(f api.Folder, tears []int) []api.Crash {
	var l []api.Crash
	var pending []int
	for i := range (len(laid(f)) + 127) / 128 {
		pending = append(pending, area(f.N)+i)
		l = append(l, parted(i+1, pending, tears)...)
	}
	return append(l, parted(len(pending)+1, []int{int(f.N % 2)}, tears)...)
}

func TestCrashInTheLastCommit(t *testing.T) {
	for _, sort := range []func(uint64) api.Folder{of, alike} {
		for _, n := range []uint64{1, 2, 3, 4, 256, 257, 1<<64 - 1} {
			for k := 1; k <= 4; k++ {
				for _, size := range []int{45, 129, 300} {
					l := series(n, k, size, sort)
					start := with(t, 50, l[:len(l)-1]...)
					for _, c := range crashes(l[len(l)-1], []int{-1, 1, 64, 100, 127, 128}) {
						survives(t, start, l, c)
					}
				}
			}
		}
	}
}

// A root's sector may be torn anywhere.
func TestTornRoots(t *testing.T) {
	for _, n := range []uint64{1, 2, 3, 255, 256, 65536} {
		l := series(n, 3, 64, of)
		start := with(t, 50, l[:len(l)-1]...)
		for at := -1; at <= 129; at++ {
			survives(t, start, l, api.Crash{Write: 2, Torn: int(n % 2), At: at})
		}
	}
}

func TestCrashInACommitOfTheLongestFolder(t *testing.T) {
	r := noise(10)
	for _, n := range []uint64{1, 2, 3, 100} {
		l := series(n, 3, 1485, of)
		start := with(t, 50, l[:len(l)-1]...)
		for write := 1; write <= 13; write++ {
			for range 40 {
				c := api.Crash{Write: write, Torn: one(&r, -1, int(n%2), area(n)+r.below(12)), At: r.below(135) - 3}
				for at := range 50 {
					if r.below(2) == 0 {
						c.Keep = append(c.Keep, at)
					}
				}
				survives(t, start, l, c)
			}
		}
	}
}

// A Commit that is interrupted writes over the one before the one before it, the root of which still counts: its folder does not.
func TestCrashThatLeavesTheOldRoot(t *testing.T) {
	l := []api.Folder{sized(1, 1485), sized(2, 1400), sized(3, 1485)}
	start := with(t, 50, l[:2]...)
	d := start.Copy()
	want(t, "Arm", d.Arm(api.Crash{Write: 12, Keep: []int{26, 27, 30}, Torn: 31, At: 50}), api.OK)
	want(t, "Commit", folder.Commit(d, l[2]), api.ErrDown)
	want(t, "Boot", d.Boot(), api.OK)
	has(t, "the one before it", d, l[1])
	spoil(t, d, 2, full(0))
	fails(t, "the one before that one is written over", d, api.ErrFolder)
}

// Over many crashes, a disk's folder never goes back further than to the one before the last one, and from each the job goes on.
func TestManyCrashes(t *testing.T) {
	r := noise(4)
	lost, kept := 0, 0
	all := sizes()
	for range 40 {
		d := made(t, 52)
		now, n := api.Folder{}, 1+r.next()>>(2+r.below(60))
		for range 40 {
			next := sized(n, all[r.below(len(all))])
			if attempt(t, &r, d, next) {
				now, n = next, n+1
				kept++
			} else {
				lost++
			}
			is(t, "many crashes", d, now)
		}
		if t.Failed() {
			break
		}
	}
	if kept < 100 || lost < 100 {
		t.Errorf("%d were kept, %d lost", kept, lost)
	}
}

// attempt commits a folder, mostly with a crash in one of the writes, and says whether its root's sector became durable.
func attempt(t *testing.T, r *noise, d *disk.Disk, next api.Folder) bool {
	t.Helper()
	writes := (len(laid(next))+127)/128 + 1
	write := one(r, 1, writes-1, writes, writes, 1+r.below(writes))
	if r.below(4) == 0 {
		commit(t, d, next)
		return true
	}
	c := api.Crash{Write: write, Torn: one(r, -1, int(next.N%2), area(next.N), area(next.N)+r.below(12)), At: r.below(135) - 3}
	for at := range 50 {
		if r.below(2) == 0 {
			c.Keep = append(c.Keep, at)
		}
	}
	want(t, "Arm", d.Arm(c), api.OK)
	want(t, "Commit", folder.Commit(d, next), api.ErrDown)
	want(t, "Boot", d.Boot(), api.OK)
	b, e := d.Read(int(next.N % 2))
	want(t, "Read", e, api.OK)
	return bytes.Equal(b, rooted(next))
}

// A crash between commits takes nothing of them.
func TestCrashBetweenCommits(t *testing.T) {
	for _, c := range []api.Crash{{Torn: -1}, {Torn: 0, At: 64}, {Torn: 26, At: 10}, {Keep: []int{0, 1, 2, 26, 40}, Torn: 27, At: 1}} {
		d := made(t, 50)
		for n := uint64(1); n < 9; n++ {
			commit(t, d, of(n))
			want(t, "Write", d.Write(49, full(byte(n))), api.OK)
			want(t, "Down", d.Down(c), api.OK)
			want(t, "Boot", d.Boot(), api.OK)
			has(t, "behind a crash", d, of(n))
		}
	}
}

// A crash that is armed for a later Commit finds all that was committed before it.
func TestCrashInALaterCommit(t *testing.T) {
	for write := 1; write <= 12; write++ {
		d := made(t, 50)
		want(t, "Arm", d.Arm(api.Crash{Write: write, Torn: -1}), api.OK)
		now := api.Folder{}
		left := write
		for n := uint64(1); ; n++ {
			f := of(n)
			writes := (len(laid(f))+127)/128 + 1
			if left <= writes {
				want(t, "Commit", folder.Commit(d, f), api.ErrDown)
				break
			}
			commit(t, d, f)
			now, left = f, left-writes
		}
		want(t, "Commit on a disk that is down", folder.Commit(d, now), map[bool]api.Errno{true: api.ErrFolder, false: api.ErrDown}[now.N == 0])
		want(t, "Boot", d.Boot(), api.OK)
		is(t, "behind the crash", d, now)
	}
}

// The crashes that are tried are all that there are: each pending sector is kept, torn or lost.
func TestPartedIsWhole(t *testing.T) {
	l := parted(1, []int{5, 6}, []int{3})
	if len(l) != 4+2+1+1 || !slices.ContainsFunc(l, func(c api.Crash) bool { return slices.Equal(c.Keep, []int{6}) && c.Torn == 5 }) {
		t.Errorf("%v", l)
	}
}
