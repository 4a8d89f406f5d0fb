package octet_test

import (
	"bytes"
	"math"
	"strings"
	"testing"

	"quadrat/api"
	"quadrat/octet"
)

// left fails unless the reader has these bytes left, by all that it tells of them. It consumes nothing.
func left(t *testing.T, what string, r *octet.Reader, asked []byte) {
	t.Helper()
	if r.Left() != len(asked) {
		t.Errorf("%s: Left %d, want %d", what, r.Left(), len(asked))
	}
	end := api.OK
	if len(asked) > 0 {
		end = api.ErrOctet
	}
	want(t, what+": End", r.End(), end)
	ahead := *r
	if b, e := ahead.Raw(ahead.Left()); e != api.OK || !bytes.Equal(b, asked) {
		t.Errorf("%s: % X are left (error %d), want % X", what, b, e, asked)
	}
}

func TestReadOfNothing(t *testing.T) {
	for _, b := range [][]byte{nil, {}} {
		r := octet.Read(b)
		if r == nil {
			t.Fatal("Read answered nil")
		}
		left(t, "nothing", r, nil)
		_, e := r.Num(1)
		want(t, "Num", e, api.ErrOctet)
		_, e = r.Num(0)
		want(t, "Num of another size", e, api.ErrArg)
		_, e = r.Int()
		want(t, "Int", e, api.ErrOctet)
		_, e = r.Text()
		want(t, "Text", e, api.ErrOctet)
		_, e = r.Raw(1)
		want(t, "Raw", e, api.ErrOctet)
		got, e := r.Raw(0)
		want(t, "Raw of none", e, api.OK)
		if len(got) != 0 {
			t.Errorf("Raw of none is % X", got)
		}
	}
}

func TestReaderNum(t *testing.T) {
	all := []byte{0xF1, 2, 3, 4, 5, 6, 7, 0xF8, 9}
	for _, c := range []struct {
		size int
		n    uint64
	}{
		{1, 0xF1},
		{2, 0xF102},
		{4, 0xF1020304},
		{8, 0xF1020304050607F8},
	} {
		for many := range len(all) + 1 {
			r := octet.Read(all[:many])
			n, e := r.Num(c.size)
			if many < c.size {
				want(t, "Num", e, api.ErrOctet)
				if n != 0 {
					t.Errorf("Num(%d) of %d bytes is %d beside an error", c.size, many, n)
				}
				left(t, "Num", r, all[:many])
				continue
			}
			want(t, "Num", e, api.OK)
			if n != c.n {
				t.Errorf("Num(%d) is %X, want %X", c.size, n, c.n)
			}
			left(t, "Num", r, all[c.size:many])
		}
	}
}

func TestReaderNumOfOtherSizes(t *testing.T) {
	all := bytes.Repeat([]byte{7}, 300)
	for _, size := range []int{math.MinInt, -8, -1, 0, 3, 5, 6, 7, 9, 16, 64, 257, math.MaxInt} {
		r := octet.Read(all)
		n, e := r.Num(size)
		want(t, "Num", e, api.ErrArg)
		if n != 0 {
			t.Errorf("Num(%d) is %d beside an error", size, n)
		}
		left(t, "Num", r, all)
	}
}

func TestReaderInt(t *testing.T) {
	for _, c := range []struct {
		bytes []byte
		n     int64
	}{
		{make([]byte, 8), 0},
		{[]byte{0, 0, 0, 0, 0, 0, 1, 2}, 258},
		{bytes.Repeat([]byte{255}, 8), -1},
		{[]byte{255, 255, 255, 255, 255, 255, 255, 254}, -2},
		{[]byte{127, 255, 255, 255, 255, 255, 255, 255}, math.MaxInt64},
		{[]byte{128, 0, 0, 0, 0, 0, 0, 0}, math.MinInt64},
	} {
		r := octet.Read(append(c.bytes, 7))
		n, e := r.Int()
		want(t, "Int", e, api.OK)
		if n != c.n {
			t.Errorf("Int of % X is %d, want %d", c.bytes, n, c.n)
		}
		left(t, "Int", r, []byte{7})
		for many := range 8 {
			r := octet.Read(c.bytes[:many])
			n, e := r.Int()
			want(t, "Int", e, api.ErrOctet)
			if n != 0 {
				t.Errorf("Int of % X is %d beside an error", c.bytes[:many], n)
			}
			left(t, "Int", r, c.bytes[:many])
		}
	}
}

func TestReaderText(t *testing.T) {
	long := strings.Repeat("x", api.MaxText)
	for _, c := range []struct {
		bytes []byte
		s     string
	}{
		{[]byte{0, 0}, ""},
		{[]byte{0, 2, 'a', 'b'}, "ab"},
		{[]byte{0, 3, 0xE2, 0x8D, 0xB3}, "⍳"},
		{[]byte{0, 3, 0xFF, 0, 0xC0}, "\xFF\x00\xC0"},
		{append([]byte{1, 0}, long[:256]...), long[:256]},
		{append([]byte{255, 255}, long...), long},
	} {
		r := octet.Read(append(c.bytes, 0, 9))
		s, e := r.Text()
		want(t, "Text", e, api.OK)
		if s != c.s {
			t.Errorf("Text of %d bytes is another one, of %d", len(c.s), len(s))
		}
		left(t, "Text", r, []byte{0, 9})
		r = octet.Read(c.bytes[:len(c.bytes)-1])
		s, e = r.Text()
		want(t, "Text, cut off", e, api.ErrOctet)
		if s != "" {
			t.Errorf("Text, cut off, is %q beside an error", s)
		}
		left(t, "Text, cut off", r, c.bytes[:len(c.bytes)-1])
	}
}

func TestReaderTextOfTooFewBytes(t *testing.T) {
	for _, b := range [][]byte{{0}, {255}, {0, 1}, {0, 3, 'a', 'b'}, {1, 0, 'a'}, {255, 255}} {
		r := octet.Read(b)
		s, e := r.Text()
		want(t, "Text", e, api.ErrOctet)
		if s != "" {
			t.Errorf("Text of % X is %q beside an error", b, s)
		}
		left(t, "Text", r, b)
	}
}

func TestReaderAfterAnError(t *testing.T) {
	r := octet.Read([]byte{0, 3, 'a', 'b'})
	_, e := r.Text()
	want(t, "Text", e, api.ErrOctet)
	if r.Left() != 4 {
		t.Errorf("Left %d, want 4", r.Left())
	}
	n, e := r.Num(2)
	want(t, "Num", e, api.OK)
	if n != 3 {
		t.Errorf("Num is %d, want 3", n)
	}
	left(t, "the rest", r, []byte{'a', 'b'})
}

func TestReaderRaw(t *testing.T) {
	all := []byte{5, 0, 255}
	for n := range 4 {
		r := octet.Read(all)
		b, e := r.Raw(n)
		want(t, "Raw", e, api.OK)
		if !bytes.Equal(b, all[:n]) {
			t.Errorf("Raw(%d) is % X", n, b)
		}
		left(t, "Raw", r, all[n:])
	}
	for _, c := range []struct {
		n int
		e api.Errno
	}{
		{4, api.ErrOctet},
		{math.MaxInt, api.ErrOctet},
		{-1, api.ErrArg},
		{math.MinInt, api.ErrArg},
	} {
		r := octet.Read(all)
		b, e := r.Raw(c.n)
		want(t, "Raw", e, c.e)
		if len(b) != 0 {
			t.Errorf("Raw(%d) is % X beside an error", c.n, b)
		}
		left(t, "Raw", r, all)
	}
	_, e := octet.Read(nil).Raw(-1)
	want(t, "Raw of a negative length, of nothing", e, api.ErrArg)
}

func TestReadersThatReadDidNotReturn(t *testing.T) {
	for what, r := range map[string]*octet.Reader{"nil": nil, "zero": {}, "new": new(octet.Reader)} {
		for _, size := range []int{1, 3} {
			n, e := r.Num(size)
			want(t, what+": Num", e, api.ErrNil)
			if n != 0 {
				t.Errorf("%s: Num is %d", what, n)
			}
		}
		n, e := r.Int()
		want(t, what+": Int", e, api.ErrNil)
		if n != 0 {
			t.Errorf("%s: Int is %d", what, n)
		}
		s, e := r.Text()
		want(t, what+": Text", e, api.ErrNil)
		if s != "" {
			t.Errorf("%s: Text is %q", what, s)
		}
		for _, long := range []int{-1, 0, 1} {
			b, e := r.Raw(long)
			want(t, what+": Raw", e, api.ErrNil)
			if len(b) != 0 {
				t.Errorf("%s: Raw is % X", what, b)
			}
		}
		if r.Left() != 0 {
			t.Errorf("%s: Left is %d", what, r.Left())
		}
		want(t, what+": End", r.End(), api.ErrNil)
	}
}

func TestReaderDoesNotKeepItsArgument(t *testing.T) {
	b := []byte{1, 2, 0, 1, 'a', 3, 4}
	r := octet.Read(b)
	one, two := octet.Read(b), octet.Read(b)
	clear(b)
	n, e := r.Num(2)
	if e != api.OK || n != 258 {
		t.Errorf("Num is %d, error %d", n, e)
	}
	s, e := r.Text()
	if e != api.OK || s != "a" {
		t.Errorf("Text is %q, error %d", s, e)
	}
	left(t, "the rest", r, []byte{3, 4})
	if _, e := one.Raw(7); e != api.OK {
		t.Error(e)
	}
	left(t, "another reader", two, []byte{1, 2, 0, 1, 'a', 3, 4})
}

func TestReaderRawIsNewMemory(t *testing.T) {
	b := []byte{1, 2, 3, 4}
	r := octet.Read(b)
	first, e := r.Raw(2)
	want(t, "Raw", e, api.OK)
	first[0] = 77
	_ = append(first, 66, 66)
	left(t, "after a change of an answer", r, []byte{3, 4})
	if !bytes.Equal(b, []byte{1, 2, 3, 4}) {
		t.Errorf("the argument is now % X", b)
	}
	again := octet.Read(b)
	ahead := *again
	one, _ := again.Raw(4)
	two, _ := ahead.Raw(4)
	one[0] = 77
	if two[0] != 1 {
		t.Error("two answers share memory")
	}
}
