package root_test

import (
	"bytes"
	"testing"

	"quadrat/api"
	"quadrat/root"
)

func TestEncodeAnswersNewMemory(t *testing.T) {
	one, _ := root.Encode(of(1))
	two, _ := root.Encode(of(1))
	for i := range one {
		one[i]++
	}
	_ = append(one[:0], 1, 2, 3)
	holds(t, "another answer", two, laid(of(1)))
	three, _ := root.Encode(of(1))
	holds(t, "the next answer", three, laid(of(1)))
	accepted(t, "another root", of(2))
}

func TestDecodeOnlyReadsItsArgument(t *testing.T) {
	room := append(laid(of(6)), 7, 8, 9)
	asked := bytes.Clone(room)
	b := room[:128]
	r, e := root.Decode(b)
	holds(t, "the argument and what is behind it", room, asked)
	clear(room)
	if e != api.OK || r != of(6) {
		t.Errorf("behind a change of the argument: error %d and %v", e, r)
	}
	refused(t, "the argument that was changed", b)
	for _, other := range strange(6) {
		asked := bytes.Clone(other)
		refused(t, "no root", other)
		holds(t, "an argument that is refused", other, asked)
	}
}

func TestBothAnswersNewMemory(t *testing.T) {
	d := with(t, 2, of(1), of(2))
	one, _ := root.Both(d)
	two, _ := root.Both(d)
	one[0], one[1] = api.Root{N: 77}, api.Root{N: 78}
	_ = append(one[:0], api.Root{N: 79})
	if len(two) != 2 || two[0] != of(2) || two[1] != of(1) {
		t.Errorf("another answer is %v", two)
	}
	has(t, "the next answer", d, of(2), of(1))
	save(t, d, of(3))
	if two[0] != of(2) || two[1] != of(1) {
		t.Errorf("behind a Save the answer is %v", two)
	}
}

func TestSaveLeavesTheRootAlone(t *testing.T) {
	d := made(t, 2)
	r := of(1)
	save(t, d, r)
	if r != of(1) {
		t.Errorf("the root is now %v", r)
	}
	r.N, r.Len, r.Sum = 5, 6, 7
	has(t, "behind a change of the root", d, of(1))
}

// Reading changes nothing about the disk.
func TestBothAndLoadOnlyReadTheDisk(t *testing.T) {
	d := with(t, 3, of(1), of(2))
	want(t, "Write", d.Write(2, full(4)), api.OK)
	want(t, "Write", d.Write(0, full(5)), api.OK)
	want(t, "Arm", d.Arm(api.Crash{Write: 1, Torn: -1}), api.OK)
	has(t, "with pending sectors", d, of(1))
	if d.Writes() != 4 || len(d.Waits()) != 2 || !d.Up() {
		t.Errorf("%d writes, %v wait, up is %v", d.Writes(), d.Waits(), d.Up())
	}
	want(t, "the write that the crash is armed for", d.Write(2, full(6)), api.ErrDown)
	want(t, "Boot", d.Boot(), api.OK)
	has(t, "behind the crash", d, of(2), of(1))
}

// An answer hangs on the disk alone, not on what was asked of others.
func TestDisksGoOnByThemselves(t *testing.T) {
	one, two := with(t, 2, of(1), of(2)), with(t, 2, of(7))
	three := one.Copy()
	save(t, three, of(3))
	has(t, "the first", one, of(2), of(1))
	has(t, "the second", two, of(7))
	has(t, "the copy", three, of(3), of(2))
	spoil(t, one, 0, full(0))
	has(t, "the first again", one, of(1))
	has(t, "the copy again", three, of(3), of(2))
}
