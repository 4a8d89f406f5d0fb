package octet_test

import (
	"bytes"
	"math"
	"strings"
	"testing"

	"quadrat/api"
	"quadrat/octet"
)

// item is a value and the call that it goes with: what says which.
type item struct {
	what string
	size int
	num  uint64
	n    int64
	s    string
	raw  []byte
}

// write writes an item.
func (x item) write(w *octet.Writer) api.Errno {
	switch x.what {
	case "num":
		return w.Num(x.size, x.num)
	case "int":
		return w.Int(x.n)
	case "text":
		return w.Text(x.s)
	}
	return w.Raw(x.raw)
}

// read reads an item like this one.
func (x item) read(r *octet.Reader) (item, api.Errno) {
	var e api.Errno
	y := item{what: x.what, size: x.size}
	switch x.what {
	case "num":
		y.num, e = r.Num(x.size)
	case "int":
		y.n, e = r.Int()
	case "text":
		y.s, e = r.Text()
	default:
		y.raw, e = r.Raw(len(x.raw))
	}
	return y, e
}

// same says whether two items are the same.
func (x item) same(y item) bool {
	return x.what == y.what && x.size == y.size && x.num == y.num && x.n == y.n && x.s == y.s && bytes.Equal(x.raw, y.raw)
}

// items are values of all kinds, again and again in another order.
func items() []item {
	var l []item
	for _, size := range []int{1, 2, 4, 8} {
		top := uint64(math.MaxUint64) >> (64 - 8*size)
		for _, n := range []uint64{0, 1, top / 3, top/2 + 1, top - 1, top} {
			l = append(l, item{what: "num", size: size, num: n})
		}
	}
	for _, n := range []int64{0, 1, -1, 127, -128, math.MaxInt64, math.MinInt64} {
		l = append(l, item{what: "int", n: n})
	}
	for _, s := range []string{"", "a", "⍳⍴", "\xFF\xFE", strings.Repeat("ab", 300), strings.Repeat("z", api.MaxText)} {
		l = append(l, item{what: "text", s: s})
	}
	for _, b := range [][]byte{nil, {0}, {0, 1, 2}, bytes.Repeat([]byte{200}, 1000)} {
		l = append(l, item{what: "raw", raw: b})
	}
	var all []item
	for step := 1; step < len(l); step += 3 { // steps that share a factor with the length leave some out, which does no harm
		for i := range l {
			all = append(all, l[i*step%len(l)])
		}
	}
	return all
}

func TestWhatWasWrittenIsReadBack(t *testing.T) {
	var w octet.Writer
	for _, x := range items() {
		want(t, x.what, x.write(&w), api.OK)
	}
	r := octet.Read(w.Bytes())
	for _, x := range items() {
		y, e := x.read(r)
		want(t, x.what, e, api.OK)
		if !x.same(y) {
			t.Fatalf("%s was read back as another one", x.what)
		}
	}
	left(t, "all of it", r, nil)
}

func TestWhatWasReadIsWrittenAgain(t *testing.T) {
	b := make([]byte, 100000)
	seed := uint32(1)
	for i := range b {
		seed = seed*1664525 + 1013904223
		b[i] = byte(seed >> 24)
	}
	r := octet.Read(b)
	var w octet.Writer
	turn := items()
	for i := 0; r.Left() > 0; i++ {
		x := turn[i%len(turn)]
		y, e := x.read(r)
		if e == api.ErrOctet { // too few bytes are left for it: a single one always goes
			y, e = item{what: "num", size: 1}.read(r)
		}
		want(t, "a read", e, api.OK)
		want(t, "a write", y.write(&w), api.OK)
	}
	want(t, "End", r.End(), api.OK)
	if !bytes.Equal(w.Bytes(), b) {
		t.Error("other bytes were written than were read")
	}
}

func TestExamples(t *testing.T) {
	var w octet.Writer
	want(t, "Num(2, 258)", w.Num(2, 258), api.OK)
	want(t, "Int(-2)", w.Int(-2), api.OK)
	want(t, "Text(ab)", w.Text("ab"), api.OK)
	holds(t, "the first example", &w, []byte{0x01, 0x02, 0xFF, 0xFF, 0xFF, 0xFF, 0xFF, 0xFF, 0xFF, 0xFE, 0x00, 0x02, 0x61, 0x62})
	want(t, "Num(1, 256)", w.Num(1, 256), api.ErrOctet)
	want(t, "Num(3, 1)", w.Num(3, 1), api.ErrArg)
	r := octet.Read([]byte{0x00, 0x03, 0x61, 0x62})
	_, e := r.Text()
	want(t, "Text", e, api.ErrOctet)
	if r.Left() != 4 {
		t.Errorf("Left is %d, want 4", r.Left())
	}
	if n, e := r.Num(2); e != api.OK || n != 3 {
		t.Errorf("Num(2) is %d, error %d, want 3", n, e)
	}
}
