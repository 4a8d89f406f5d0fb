package octet_test

import (
	"bytes"
	"math"
	"strings"
	"testing"

	"quadrat/api"
	"quadrat/octet"
)

// want fails unless an error is the one that is asked for.
func want(t *testing.T, what string, got, asked api.Errno) {
	t.Helper()
	if got != asked {
		t.Errorf("%s: error %d, want %d", what, got, asked)
	}
}

// holds fails unless the writer has written just these bytes.
func holds(t *testing.T, what string, w *octet.Writer, asked []byte) {
	t.Helper()
	if got := w.Bytes(); !bytes.Equal(got, asked) {
		t.Errorf("%s: wrote % X, want % X", what, got, asked)
	}
	if got := w.Len(); got != len(asked) {
		t.Errorf("%s: Len %d, want %d", what, got, len(asked))
	}
}

func TestZeroWriterHasWrittenNothing(t *testing.T) {
	var w octet.Writer
	holds(t, "a zero Writer", &w, nil)
}

func TestWriterNum(t *testing.T) {
	for _, c := range []struct {
		size  int
		n     uint64
		e     api.Errno
		bytes []byte
	}{
		{1, 0, api.OK, []byte{0}},
		{1, 255, api.OK, []byte{255}},
		{1, 256, api.ErrOctet, nil},
		{1, math.MaxUint64, api.ErrOctet, nil},
		{2, 0, api.OK, []byte{0, 0}},
		{2, 258, api.OK, []byte{1, 2}},
		{2, 65535, api.OK, []byte{255, 255}},
		{2, 65536, api.ErrOctet, nil},
		{4, 0x01020304, api.OK, []byte{1, 2, 3, 4}},
		{4, math.MaxUint32, api.OK, []byte{255, 255, 255, 255}},
		{4, math.MaxUint32 + 1, api.ErrOctet, nil},
		{8, 0, api.OK, make([]byte, 8)},
		{8, 0x0102030405060708, api.OK, []byte{1, 2, 3, 4, 5, 6, 7, 8}},
		{8, 0x8000000000000000, api.OK, []byte{128, 0, 0, 0, 0, 0, 0, 0}},
		{8, math.MaxUint64, api.OK, bytes.Repeat([]byte{255}, 8)},
	} {
		var w octet.Writer
		want(t, "Num", w.Num(c.size, c.n), c.e)
		holds(t, "Num", &w, c.bytes)
	}
}

func TestWriterNumOfOtherSizes(t *testing.T) {
	for _, size := range []int{math.MinInt, -8, -1, 0, 3, 5, 6, 7, 9, 16, 64, 257, math.MaxInt} {
		for _, n := range []uint64{0, 1, math.MaxUint64} {
			var w octet.Writer
			want(t, "Num", w.Num(size, n), api.ErrArg)
			holds(t, "Num", &w, nil)
		}
	}
}

func TestWriterInt(t *testing.T) {
	for _, c := range []struct {
		n     int64
		bytes []byte
	}{
		{0, make([]byte, 8)},
		{1, []byte{0, 0, 0, 0, 0, 0, 0, 1}},
		{-1, bytes.Repeat([]byte{255}, 8)},
		{-2, []byte{255, 255, 255, 255, 255, 255, 255, 254}},
		{-256, []byte{255, 255, 255, 255, 255, 255, 255, 0}},
		{math.MaxInt64, []byte{127, 255, 255, 255, 255, 255, 255, 255}},
		{math.MinInt64, []byte{128, 0, 0, 0, 0, 0, 0, 0}},
	} {
		var w octet.Writer
		want(t, "Int", w.Int(c.n), api.OK)
		holds(t, "Int", &w, c.bytes)
	}
}

func TestWriterText(t *testing.T) {
	long := strings.Repeat("x", api.MaxText)
	for _, c := range []struct {
		s     string
		e     api.Errno
		bytes []byte
	}{
		{"", api.OK, []byte{0, 0}},
		{"ab", api.OK, []byte{0, 2, 'a', 'b'}},
		{"⍳", api.OK, []byte{0, 3, 0xE2, 0x8D, 0xB3}},
		{"\xFF\x00\xC0", api.OK, []byte{0, 3, 0xFF, 0, 0xC0}},
		{long[:255], api.OK, append([]byte{0, 255}, long[:255]...)},
		{long[:256], api.OK, append([]byte{1, 0}, long[:256]...)},
		{long[1:], api.OK, append([]byte{255, 254}, long[1:]...)},
		{long, api.OK, append([]byte{255, 255}, long...)},
		{long + "x", api.ErrOctet, nil},
		{long + long, api.ErrOctet, nil},
	} {
		var w octet.Writer
		want(t, "Text", w.Text(c.s), c.e)
		holds(t, "Text", &w, c.bytes)
	}
}

func TestWriterRaw(t *testing.T) {
	var w octet.Writer
	want(t, "Raw of nil", w.Raw(nil), api.OK)
	want(t, "Raw of none", w.Raw([]byte{}), api.OK)
	holds(t, "Raw of none", &w, nil)
	want(t, "Raw", w.Raw([]byte{0, 255, 7}), api.OK)
	want(t, "Raw", w.Raw([]byte{8}), api.OK)
	holds(t, "Raw", &w, []byte{0, 255, 7, 8})
	long := bytes.Repeat([]byte{9}, api.MaxText+1)
	want(t, "Raw of many", w.Raw(long), api.OK)
	holds(t, "Raw of many", &w, append([]byte{0, 255, 7, 8}, long...))
}

func TestWriterKeepsTheOrderAndSkipsErrors(t *testing.T) {
	var w octet.Writer
	want(t, "Num", w.Num(2, 258), api.OK)
	want(t, "Num", w.Num(1, 256), api.ErrOctet)
	want(t, "Int", w.Int(-2), api.OK)
	want(t, "Num", w.Num(3, 1), api.ErrArg)
	want(t, "Num", w.Num(3, 1<<40), api.ErrArg)
	want(t, "Text", w.Text("ab"), api.OK)
	want(t, "Text", w.Text(strings.Repeat("x", api.MaxText+1)), api.ErrOctet)
	asked := []byte{1, 2, 255, 255, 255, 255, 255, 255, 255, 254, 0, 2, 'a', 'b'}
	holds(t, "all of it", &w, asked)
	holds(t, "asked again", &w, asked)
}

func TestNilWriter(t *testing.T) {
	var w *octet.Writer
	want(t, "Num", w.Num(1, 1), api.ErrNil)
	want(t, "Num of another size", w.Num(3, 1), api.ErrNil)
	want(t, "Num too great", w.Num(1, 256), api.ErrNil)
	want(t, "Int", w.Int(1), api.ErrNil)
	want(t, "Text", w.Text("a"), api.ErrNil)
	want(t, "Text too long", w.Text(strings.Repeat("x", api.MaxText+1)), api.ErrNil)
	want(t, "Raw", w.Raw([]byte{1}), api.ErrNil)
	want(t, "Raw of none", w.Raw(nil), api.ErrNil)
	if w.Len() != 0 || len(w.Bytes()) != 0 {
		t.Errorf("Len %d, Bytes % X", w.Len(), w.Bytes())
	}
}

func TestWriterDoesNotKeepArguments(t *testing.T) {
	var w octet.Writer
	b := []byte{1, 2, 3, 4, 5}
	want(t, "Raw", w.Raw(b[:3]), api.OK)
	want(t, "Raw", w.Raw([]byte{9}), api.OK)
	if !bytes.Equal(b, []byte{1, 2, 3, 4, 5}) {
		t.Errorf("the argument is now % X", b)
	}
	b[0] = 77
	holds(t, "Raw", &w, []byte{1, 2, 3, 9})
}

func TestWriterBytesAreNewMemory(t *testing.T) {
	var w octet.Writer
	want(t, "Raw", w.Raw([]byte{1, 2, 3}), api.OK)
	first, second := w.Bytes(), w.Bytes()
	first[0] = 77
	if second[0] != 1 {
		t.Error("two answers share memory")
	}
	holds(t, "after a change of an answer", &w, []byte{1, 2, 3})
	_ = append(second[:1], 66, 66, 66, 66)
	want(t, "Num", w.Num(1, 4), api.OK)
	holds(t, "after a change of an answer", &w, []byte{1, 2, 3, 4})
	if first[1] != 2 || len(first) != 3 {
		t.Error("an answer changed when more was written")
	}
}

// What a Writer wrote must not hang on how much room is left behind its bytes, even if it was copied.
func TestCopiedWritersGoOnByThemselves(t *testing.T) {
	for n := range 70 {
		var w octet.Writer
		start := bytes.Repeat([]byte{5}, n)
		for range n {
			want(t, "Num", w.Num(1, 5), api.OK)
		}
		one, two := w, w
		want(t, "Num", one.Num(1, 1), api.OK)
		want(t, "Num", two.Num(1, 2), api.OK)
		want(t, "Num", w.Num(1, 3), api.OK)
		holds(t, "one copy", &one, append(start[:n:n], 1))
		holds(t, "another one", &two, append(start[:n:n], 2))
		holds(t, "the first one", &w, append(start[:n:n], 3))
	}
}
