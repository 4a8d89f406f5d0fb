package lex_test

import (
	"slices"
	"strings"
	"testing"

	"quadrat/api"
	"quadrat/lex"
)

func TestShowOfNothing(t *testing.T) {
	shows(t, "")
	shows(t, "", []api.Token{}...)
}

func TestShowOfValues(t *testing.T) {
	shows(t, "0", num(0))
	shows(t, "5", num(5))
	shows(t, "¯5", num(-5))
	shows(t, "9223372036854775807", num(greatest))
	shows(t, "¯9223372036854775808", num(least))
	shows(t, "1 2", nums(1, 2))
	shows(t, "1 ¯2 0", nums(1, -2, 0))
	shows(t, "'a'", char('a'))
	shows(t, "''''", char('\''))
	shows(t, "' '", char(' '))
	shows(t, "'\x00'", char(0))
	shows(t, "'\n'", char('\n'))
	shows(t, "''", chars())
	shows(t, "'ab'", text("ab"))
	shows(t, "'it''s'", text("it's"))
	shows(t, "''''''", text("''"))
	shows(t, "'é⍵😀⋄'", text("é⍵😀⋄"))
	shows(t, "'\U0010FFFF\uE000'", chars(0x10FFFF, 0xE000))
	shows(t, "?", of(2, nil, 0xD800))
	l, s := first(4096, " ")
	shows(t, s, nums(l...))
	shows(t, "'"+strings.Repeat("''", 4096)+"'", text(strings.Repeat("'", 4096)))
}

func TestShowOfNames(t *testing.T) {
	for _, s := range []string{"a", "Z", "x_1", "abcdefghijkl", "a___________"} {
		shows(t, s, name(s))
	}
	for _, s := range []string{"", "1", "_", "_a", "1a", "abcdefghijklm", "é", "aé", "+", "⍵", "∇", "a b", " a", "a ", "a\n", "'a'", "?", "\xFF", "a\xFF", "⋄", "\n", " ", strings.Repeat("a", 4000)} {
		shows(t, "?", name(s))
		shows(t, "b ? c", name("b"), name(s), name("c"))
	}
}

func TestShowOfGlyphs(t *testing.T) {
	for _, s := range signs() {
		shows(t, s, glyph(s))
		shows(t, s+" "+s, glyph(s), glyph(s))
		for _, z := range signs() {
			shows(t, "?", glyph(s+z))
		}
		for i := 1; i < len(s); i++ {
			shows(t, "? ?", glyph(s[:i]), glyph(s[i:]))
		}
		shows(t, "? ? ?", glyph(s+" "), glyph(" "+s), glyph(s+"\xFF"))
	}
	shows(t, "?", glyph(strings.Join(signs(), "")))
	for _, s := range []string{"", "a", "1", "'", "''", "¯", "_", "@", "?", "\n", " ", "\t", "é", "\xFF", "\x8B", "\uFFFD", "⍬", "12", "ab", "-1", "←a", "\x00"} {
		shows(t, "?", glyph(s))
		shows(t, "+ ? -", glyph("+"), glyph(s), glyph("-"))
	}
}

// noValues are arrays that no statement has a value for, some of them valid.
func noValues() []api.Token {
	return []api.Token{
		{Kind: 1}, of(0, nil, 1), of(3, nil, 1), of(-1, nil, 1), of(257, nil, 1), of(0, []int{2}, 1, 2), of(3, []int{0}),
		of(1, nil), of(2, nil), of(1, nil, 1, 2), of(2, nil, 97, 98), of(1, []int{2}, 1), of(1, []int{2}, 1, 2, 3), of(1, []int{0}, 1), of(2, []int{0}, 97), of(1, []int{3}), of(2, []int{1}),
		of(1, []int{0}), of(1, []int{1}, 7), of(2, []int{1}, 97), of(2, []int{1}, 39), of(1, []int{-1}), of(2, []int{-2}, 97, 98), of(1, []int{5000}, 1, 2),
		of(1, []int{2, 2}, 1, 2, 3, 4), of(2, []int{2, 2}, 97, 98, 99, 100), of(1, []int{1, 1}, 1), of(1, []int{1, 2}, 1, 2), of(2, []int{2, 1}, 97, 98), of(1, []int{0, 0}), of(2, []int{0, 0}), of(2, []int{0, 3}), of(2, []int{3, 0}), of(1, []int{2, 1, 2, 1}, 1, 2, 3, 4),
		of(1, []int{1, 1, 1, 1, 1}, 1), of(2, []int{0, 0, 0, 0, 0}), of(2, []int{0, 0, 0, 0}), of(1, []int{4097}, slices.Repeat([]int64{1}, 4097)...), of(2, []int{4097}, slices.Repeat([]int64{97}, 4097)...),
		of(2, nil, -1), of(2, nil, 0xD800), of(2, nil, 0xDFFF), of(2, nil, 0x110000), of(2, nil, 1<<32+97), of(2, nil, least), of(2, []int{2}, 97, 0xDC00), of(2, []int{2}, -97, 98), of(2, []int{3}, 97, 98, greatest),
	}
}

func TestShowOfValuesThatNoStatementHas(t *testing.T) {
	for _, token := range noValues() {
		shows(t, "?", token)
		shows(t, "a ? ⍵", name("a"), token, glyph("⍵"))
		token.Text = "a"
		shows(t, "?", token)
	}
	l := noValues()
	shows(t, strings.TrimSuffix(strings.Repeat("? ", len(l)), " "), l...)
}

func TestShowOfKindsThatAreNone(t *testing.T) {
	for _, kind := range []int{0, 4, 5, -1, -2, -3, 255, 256, 257, 258, 259, 1<<32 + 1, 1<<32 + 2, 1<<32 + 3, least, greatest} {
		for _, token := range []api.Token{{}, num(1), text("ab"), name("a"), glyph("+"), {Text: "?"}} {
			token.Kind = kind
			shows(t, "?", token)
		}
	}
}

// What a token has that its kind does not ask for is not told.
func TestShowOfOtherFields(t *testing.T) {
	token := num(7)
	token.Text = "abc"
	shows(t, "7", token)
	token.Text = "+"
	shows(t, "7", token)
	token.Kind = 3
	shows(t, "+", token)
	token.Kind, token.Text = 2, "abc"
	shows(t, "abc", token)
	token.Value = api.Array{Kind: 9, Elems: []int64{1}}
	shows(t, "abc", token)
	token.Kind = 1
	shows(t, "?", token)
}

func TestShowOfSeveral(t *testing.T) {
	shows(t, "x1 ← 1 ¯2 + 3", name("x1"), glyph("←"), nums(1, -2), glyph("+"), num(3))
	shows(t, "f ← { ⍵ = 0 : 1 ⋄ ⍵ }", name("f"), glyph("←"), glyph("{"), glyph("⍵"), glyph("="), num(0), glyph(":"), num(1), glyph("⋄"), glyph("⍵"), glyph("}"))
	shows(t, "'a' '' 'b'", char('a'), chars(), char('b'))
	shows(t, "1 2 3", num(1), nums(2, 3)) // two values that no statement has beside each other
	shows(t, "? ? ?", api.Token{}, name(""), glyph(""))
}

// differ are tokens of which no two are equal.
func differ() []api.Token {
	l := []api.Token{
		{}, num(0), num(1), num(-1), nums(1, 2), nums(1, 2, 3), nums(2, 1), nums(1, 3), of(1, []int{1}, 1), of(1, []int{0}), of(1, []int{2, 1}, 1, 2), of(1, []int{1, 2}, 1, 2),
		char(1), char('a'), chars(), chars(1, 2), text("ab"), text("aB"), text("abc"), of(2, []int{1}, 97), of(3, nil, 1), of(0, nil, 1), of(1, nil, 1, 2), of(1, nil), of(1, []int{3}, 1, 2), of(1, []int{2}, 1, 2, 3),
		name("a"), name("A"), name("ab"), name(""), name("+"), name("?"), name("a\x00"), name("a\xFF"), glyph("+"), glyph("-"), glyph("⋄"), glyph("\n"), glyph(""), glyph("a"), glyph("?"),
		{Kind: 2, Text: "a", Value: num(1).Value}, {Kind: 3, Text: "+", Value: text("ab").Value}, {Kind: 4, Text: "a"}, {Kind: -1}, {Kind: 4}, {Kind: 1<<32 + 1}, {Text: "a"}, {Value: num(1).Value}, {Text: "a", Value: num(1).Value},
	}
	for _, token := range []api.Token{num(1), char(1), nums(1, 2)} {
		token.Text = "a"
		l = append(l, token)
	}
	return l
}

// same fails unless Same says of two lists what is asked for, in both orders.
func same(t *testing.T, a, b []api.Token, asked bool) {
	t.Helper()
	if lex.Same(a, b) != asked || lex.Same(b, a) != asked {
		t.Errorf("Same(%v, %v): %t and %t", a, b, lex.Same(a, b), lex.Same(b, a))
	}
}

func TestSameOfOneToken(t *testing.T) {
	l, again := differ(), differ()
	for i := range l {
		for j := range again {
			same(t, l[i:i+1], again[j:j+1], i == j)
		}
	}
}

func TestSameOfLists(t *testing.T) {
	same(t, nil, nil, true)
	same(t, nil, []api.Token{}, true)
	same(t, []api.Token{}, []api.Token{}, true)
	same(t, nil, []api.Token{{}}, false)
	same(t, []api.Token{}, []api.Token{{}}, false)
	l := differ()
	same(t, l, differ(), true)
	for i := range l {
		same(t, l, l[:i], false)
		same(t, l, l[i+1:], false)
		for _, token := range []api.Token{name("zz"), {}, num(99)} {
			other := differ()
			other[i] = token
			same(t, l, other, equal(l[i], token))
		}
	}
	turned := differ()
	slices.Reverse(turned)
	same(t, l, turned, false)
	same(t, []api.Token{num(1), name("a")}, []api.Token{name("a"), num(1)}, false)
}

// No list is the same as an empty one, in a value as well.
func TestSameOfNoLists(t *testing.T) {
	empty := api.Token{Kind: 1, Value: api.Array{Kind: 1, Shape: []int{}, Elems: []int64{}}}
	same(t, []api.Token{empty}, []api.Token{of(1, nil)}, true)
	one := of(1, nil, 5)
	one.Value.Shape = []int{}
	same(t, []api.Token{one}, []api.Token{num(5)}, true)
	nothing := chars()
	nothing.Value.Elems = []int64{}
	same(t, []api.Token{nothing}, []api.Token{chars()}, true)
	plain := name("a")
	plain.Value.Shape, plain.Value.Elems = []int{}, []int64{}
	same(t, []api.Token{plain}, []api.Token{name("a")}, true)
}

// A difference of one element counts, wherever it stands.
func TestSameOfEachElement(t *testing.T) {
	l, _ := first(4096, " ")
	for i := range l {
		other := slices.Clone(l)
		other[i]++
		same(t, []api.Token{nums(l...)}, []api.Token{nums(other...)}, false)
	}
	same(t, []api.Token{nums(l...)}, []api.Token{nums(l...)}, true)
}
