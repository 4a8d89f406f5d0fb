package array_test

import (
	"slices"
	"strconv"
	"strings"
	"testing"

	"quadrat/api"
	"quadrat/array"
)

// numbers are those that a text has, with a space between them.
func numbers(t *testing.T, text string) []int64 {
	t.Helper()
	var l []int64
	for _, one := range strings.Split(text, " ") {
		n, err := strconv.ParseInt(strings.ReplaceAll(one, "¯", "-"), 10, 64)
		if err != nil {
			t.Fatalf("no number: %q in %q", one, text)
		}
		l = append(l, n)
	}
	return l
}

// read is the array that a text is that of.
func read(t *testing.T, text string) api.Array {
	t.Helper()
	a, elems, shaped := api.Array{Kind: 1}, text, false
	if lengths, rest, has := strings.Cut(text, "⍴"); has && !strings.Contains(lengths, "'") {
		elems, shaped = rest, true
		for _, n := range numbers(t, lengths) {
			a.Shape = append(a.Shape, int(n))
		}
	}
	if inner, quoted := strings.CutPrefix(elems, "'"); quoted {
		a.Kind = 2
		for _, c := range strings.ReplaceAll(strings.TrimSuffix(inner, "'"), "''", "'") {
			a.Elems = append(a.Elems, int64(c))
		}
	} else if elems != "0" || countOf(a.Shape) != 0 {
		a.Elems = numbers(t, elems)
	}
	if !shaped && len(a.Elems) != 1 {
		a.Shape = []int{len(a.Elems)}
	}
	return a
}

// readsBack fails unless an array's text is read as just that array.
func readsBack(t *testing.T, a api.Array) {
	t.Helper()
	text, e := array.Text(a)
	want(t, "Text", e, api.OK)
	is(t, "the text "+strconv.Quote(text), read(t, text), a)
}

// Two arrays have the same text only if they are equal: the text alone tells the whole array.
func TestTextsAreReadBack(t *testing.T) {
	for _, shape := range goodShapes() {
		elems := first(countOf(shape))
		readsBack(t, nums(shape, elems...))
		readsBack(t, chars(shape, elems...))
		for i := range elems {
			elems[i] = '\''
		}
		readsBack(t, nums(shape, elems...))
		readsBack(t, chars(shape, elems...))
	}
	r := noise(34)
	for range 20_000 {
		readsBack(t, r.array())
	}
}

// all are the lists of so many of these elements.
func all(elems []int64, n int) [][]int64 {
	if n == 0 {
		return [][]int64{nil}
	}
	var l [][]int64
	for _, rest := range all(elems, n-1) {
		for _, x := range elems {
			l = append(l, append(slices.Clone(rest), x))
		}
	}
	return l
}

// Among all small arrays of elements that could be taken for something else, no two have the same text.
func TestTextsAreTold(t *testing.T) {
	of := make(map[string]api.Array)
	shapes := [][]int{nil, {0}, {1}, {2}, {3}, {0, 0}, {0, 1}, {1, 0}, {0, 2}, {2, 0}, {1, 1}, {1, 2}, {2, 1}, {1, 3}, {3, 1}, {1, 1, 2}, {1, 2, 1}, {2, 1, 1}, {0, 0, 0}, {0, 1, 0}, {11}, {1, 1, 1}, {1, 1, 1, 1}, {1, 0, 1, 2}, {1, 0, 12}, {10, 1, 2, 0}}
	for _, shape := range shapes {
		if countOf(shape) > 3 {
			continue
		}
		for kind := 1; kind <= 2; kind++ {
			for _, elems := range all([]int64{'\'', '0', '1', ' ', 0x2374, 0xAF, 0, 1}, countOf(shape)) {
				a := api.Array{Kind: kind, Shape: shape, Elems: elems}
				text, e := array.Text(a)
				want(t, "Text", e, api.OK)
				if other, has := of[text]; has {
					t.Errorf("%v and %v have the same text %q", a, other, text)
				}
				of[text] = a
			}
		}
	}
}
