package array_test

import (
	"strconv"
	"strings"
	"testing"

	"quadrat/api"
	"quadrat/array"
)

// tells fails unless an array has that text.
func tells(t *testing.T, a api.Array, asked string) {
	t.Helper()
	if got, e := array.Text(a); e != api.OK || got != asked {
		t.Errorf("Text of %v: error %d and %q, want %q", a, e, got, asked)
	}
}

// The chapter's examples.
func TestExamplesOfTexts(t *testing.T) {
	tells(t, array.Scalar(-5), "¯5")
	tells(t, array.Vector(1, -2), "1 ¯2")
	tells(t, array.Vector(7), "1⍴7")
	tells(t, array.Chars("it's"), "'it''s'")
	tells(t, nums([]int{2, 3}, 1, 2, 3, 4, 5, 6), "2 3⍴1 2 3 4 5 6")
	tells(t, array.Vector(), "0⍴0")
	tells(t, array.Chars(""), "''")
	tells(t, chars(nil, 'a'), "'a'")
}

// The signs are just these characters.
func TestSignsOfTexts(t *testing.T) {
	tells(t, array.Scalar(-5), "\xC2\xAF5")
	tells(t, array.Vector(-7), "1\xE2\x8D\xB4\xC2\xAF7")
	tells(t, array.Chars("'"), "1\xE2\x8D\xB4\x27\x27\x27\x27")
	tells(t, array.Vector(1, 2), "1\x202")
}

func TestTextsOfNumbers(t *testing.T) {
	for _, c := range []struct {
		n    int64
		text string
	}{
		{0, "0"}, {1, "1"}, {-1, "¯1"}, {9, "9"}, {10, "10"}, {-10, "¯10"}, {100, "100"}, {4096, "4096"}, {-4097, "¯4097"}, {1000000, "1000000"},
		{greatest, "9223372036854775807"}, {greatest - 1, "9223372036854775806"}, {least, "¯9223372036854775808"}, {least + 1, "¯9223372036854775807"},
	} {
		tells(t, array.Scalar(c.n), c.text)
		tells(t, array.Vector(c.n), "1⍴"+c.text)
		tells(t, array.Vector(c.n, c.n), c.text+" "+c.text)
		tells(t, nums([]int{1, 1}, c.n), "1 1⍴"+c.text)
		tells(t, nums([]int{1, 3}, 0, c.n, -1), "1 3⍴0 "+c.text+" ¯1")
	}
}

func TestTextsOfCharacters(t *testing.T) {
	for _, c := range []int64{0, 9, 10, 13, 32, '"', '`', '\\', 'a', 'Z', 127, 128, 0xAF, 0x2019, 0x2374, 0xD7FF, 0xE000, 0xFEFF, 0xFFFD, 0xFFFF, 0x10000, 0x1F600, 0x10FFFF} {
		text := string(rune(c))
		tells(t, chars(nil, c), "'"+text+"'")
		tells(t, chars([]int{1}, c), "1⍴'"+text+"'")
		tells(t, chars([]int{3}, c, 'x', c), "'"+text+"x"+text+"'")
		tells(t, chars([]int{2, 1}, c, c), "2 1⍴'"+text+text+"'")
	}
}

func TestTextsOfQuotes(t *testing.T) {
	tells(t, chars(nil, '\''), "''''")
	tells(t, chars([]int{1}, '\''), "1⍴''''")
	tells(t, chars([]int{2}, '\'', '\''), "''''''")
	tells(t, chars([]int{3}, '\'', '\'', '\''), "''''''''")
	tells(t, array.Chars("'a'"), "'''a'''")
	tells(t, array.Chars("a''b"), "'a''''b'")
	tells(t, chars([]int{1, 2}, '\'', 'x'), "1 2⍴'''x'")
	tells(t, array.Vector('\'', '\''), "39 39")
}

func TestTextsOfScalarsAndVectors(t *testing.T) {
	tells(t, array.Scalar(0), "0")
	tells(t, array.Vector(0), "1⍴0")
	tells(t, array.Vector(0, 0), "0 0")
	tells(t, array.Vector(5, -6, 7), "5 ¯6 7")
	tells(t, chars(nil, '0'), "'0'")
	tells(t, array.Chars("0"), "1⍴'0'")
	tells(t, array.Chars("ab"), "'ab'")
	tells(t, array.Chars("1 2"), "'1 2'")
	tells(t, array.Chars("0⍴0"), "'0⍴0'")
	tells(t, chars([]int{0}), "''")
	tells(t, nums([]int{0}), "0⍴0")
}

func TestTextsOfMoreAxes(t *testing.T) {
	tells(t, nums([]int{1, 1}, 7), "1 1⍴7")
	tells(t, nums([]int{1, 2}, 7, 8), "1 2⍴7 8")
	tells(t, nums([]int{2, 1}, 7, 8), "2 1⍴7 8")
	tells(t, chars([]int{1, 1}, 'a'), "1 1⍴'a'")
	tells(t, chars([]int{2, 2}, 'a', 'b', 'c', 'd'), "2 2⍴'abcd'")
	tells(t, nums([]int{2, 1, 3}, 1, 2, 3, -4, 5, 6), "2 1 3⍴1 2 3 ¯4 5 6")
	tells(t, chars([]int{1, 3, 1}, 'x', '\'', 'z'), "1 3 1⍴'x''z'")
	tells(t, nums([]int{1, 2, 1, 2}, 1, 2, 3, 4), "1 2 1 2⍴1 2 3 4")
	tells(t, chars([]int{1, 1, 1, 1}, '\''), "1 1 1 1⍴''''")
}

func TestTextsOfNothing(t *testing.T) {
	for _, shape := range [][]int{{0, 0}, {0, 1}, {1, 0}, {2, 0}, {0, 4096}, {12, 0, 10}, {0, 0, 0, 0}, {4096, 4096, 0, 4096}} {
		var lengths []string
		for _, n := range shape {
			lengths = append(lengths, strconv.Itoa(n))
		}
		tells(t, nums(shape), strings.Join(lengths, " ")+"⍴0")
		tells(t, chars(shape), strings.Join(lengths, " ")+"⍴''")
	}
}

func TestTextsOfMany(t *testing.T) {
	a, asked := nums([]int{4096}), ""
	for i := range 4096 {
		a.Elems = append(a.Elems, int64(-i))
		asked += " ¯" + strconv.Itoa(i)
	}
	asked = "0" + strings.TrimPrefix(asked, " ¯0")
	tells(t, a, asked)
	a.Shape = []int{64, 1, 64}
	tells(t, a, "64 1 64⍴"+asked)
	tells(t, array.Chars(strings.Repeat("'", 4096)), strings.Repeat("'", 8194))
	tells(t, array.Chars(strings.Repeat("\U0010FFFF", 4096)), "'"+strings.Repeat("\U0010FFFF", 4096)+"'")
}

func TestTextsOfArraysThatAreNotValid(t *testing.T) {
	for _, a := range []api.Array{
		{}, {Kind: 1}, {Kind: 2}, {Elems: []int64{7}}, {Kind: 3, Elems: []int64{7}}, nums(nil, 1, 2), nums([]int{2}, 1), nums([]int{1}, 1, 2), nums([]int{0}, 0),
		nums([]int{4097}, first(4097)...), nums([]int{1, 1, 1, 1, 1}, 7), nums([]int{-1}), chars(nil, 0xD800), chars([]int{2}, 97, 0xDFFF), chars([]int{1}, -1), chars(nil, 0x110000), chars([]int{2, 2}, 97),
	} {
		barred(t, "not valid", a)
	}
}
