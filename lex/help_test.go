package lex_test

import (
	"math"
	"slices"
	"strconv"
	"testing"

	"quadrat/api"
	"quadrat/lex"
)

const (
	least    = math.MinInt64
	greatest = math.MaxInt64
)

// signs are the glyphs of the chapter's table.
func signs() []string {
	return []string{
		"+", "-", "×", "÷", "|", "⌊", "⌈", "*", "=", "≠", "<", "≤", "≥", ">", "∧", "∨", "~",
		"⍴", ",", "⌽", "⍉", "⍳", "≢", "⍋", "⍒", "↑", "↓", "∊", "/", "\\", "∘", ".", "←",
		"(", ")", "[", "]", "{", "}", ";", ":", "⍺", "⍵", "∇", "⋄",
	}
}

// want fails unless an error is the one that is asked for.
func want(t *testing.T, what string, got, asked api.Errno) {
	t.Helper()
	if got != asked {
		t.Errorf("%s: error %d, want %d", what, got, asked)
	}
}

// short is a text as a test tells it, cut if it is long.
func short(s string) string {
	if len(s) > 60 {
		return strconv.Quote(s[:60]) + " and " + strconv.Itoa(len(s)-60) + " bytes more"
	}
	return strconv.Quote(s)
}

// of is the token of a value.
func of(kind int, shape []int, elems ...int64) api.Token {
	return api.Token{Kind: 1, Value: api.Array{Kind: kind, Shape: shape, Elems: elems}}
}

// num is the token of one number.
func num(n int64) api.Token { return of(1, nil, n) }

// nums is that of several numbers.
func nums(l ...int64) api.Token { return of(1, []int{len(l)}, l...) }

// char is the token of one character.
func char(c rune) api.Token { return of(2, nil, int64(c)) }

// chars is that of several characters, or of none.
func chars(l ...rune) api.Token {
	var elems []int64
	for _, c := range l {
		elems = append(elems, int64(c))
	}
	return of(2, []int{len(l)}, elems...)
}

// text is the token of a text's characters, which are not one.
func text(s string) api.Token { return chars([]rune(s)...) }

// name is the token of a name.
func name(s string) api.Token { return api.Token{Kind: 2, Text: s} }

// glyph is the token of a glyph.
func glyph(s string) api.Token { return api.Token{Kind: 3, Text: s} }

// equal says whether two tokens are equal; no list is the same as an empty one.
func equal(a, b api.Token) bool {
	return a.Kind == b.Kind && a.Text == b.Text && a.Value.Kind == b.Value.Kind && slices.Equal(a.Value.Shape, b.Value.Shape) && slices.Equal(a.Value.Elems, b.Value.Elems)
}

// are fails unless tokens are those that are asked for, also by what Same says of them.
func are(t *testing.T, what string, got, asked []api.Token) {
	t.Helper()
	if len(got) != len(asked) {
		t.Errorf("%s: %d tokens, want %d", what, len(got), len(asked))
		return
	}
	for i := range got {
		if !equal(got[i], asked[i]) {
			t.Errorf("%s: token %d is %v, want %v", what, i, got[i], asked[i])
			return
		}
	}
	if !lex.Same(got, asked) || !lex.Same(asked, got) {
		t.Errorf("%s: Same says that they differ", what)
	}
}

// reads fails unless a statement has the tokens that are asked for, with and without spaces around it.
func reads(t *testing.T, s string, asked ...api.Token) {
	t.Helper()
	for _, around := range []string{s, " " + s, s + " ", "    " + s + "   "} {
		got, e := lex.Tokens(around)
		want(t, short(around), e, api.OK)
		are(t, short(around), got, asked)
	}
}

// fails fails unless Tokens answers an error, and no tokens beside it.
func fails(t *testing.T, s string, asked api.Errno) {
	t.Helper()
	for _, around := range []string{s, " " + s, s + " ", "    " + s + "   "} {
		got, e := lex.Tokens(around)
		want(t, short(around), e, asked)
		if len(got) != 0 {
			t.Errorf("%s: %d tokens beside the error", short(around), len(got))
		}
	}
}

// refuses fails unless a statement is none, wherever what is wrong with it stands.
func refuses(t *testing.T, s string) {
	t.Helper()
	for _, around := range []string{s, "a " + s, s + " a", "1+" + s, "(" + s + ")", "{\n" + s + "\n}", "'x' " + s, "⍵ " + s + " ⍺"} {
		fails(t, around, api.ErrSyntax)
	}
}

// shows fails unless tokens are represented as it is asked for.
func shows(t *testing.T, asked string, l ...api.Token) {
	t.Helper()
	if got := lex.Show(l); got != asked {
		t.Errorf("Show(%v): %s, want %s", l, short(got), short(asked))
	}
}

// noise yields numbers that look like chance and are always the same.
type noise uint64

// next is the next number.
func (r *noise) next() uint64 {
	*r = *r*6364136223846793005 + 1442695040888963407
	return uint64(*r>>32) ^ uint64(*r)<<20
}

// below is the next number, from 0 on and below n.
func (r *noise) below(n int) int { return int(r.next() % uint64(n)) }

// made is a text of so many of these parts.
func (r *noise) made(n int, parts []string) string {
	s := ""
	for range n {
		s += parts[r.below(len(parts))]
	}
	return s
}

// all yields each text of at most so many of these parts.
func all(n int, parts []string, yield func(s string)) {
	yield("")
	grow("", n, parts, yield)
}

// grow yields each text that begins with another one and has up to n parts more, but for that one.
func grow(s string, n int, parts []string, yield func(s string)) {
	if n == 0 {
		return
	}
	for _, part := range parts {
		yield(s + part)
		grow(s+part, n-1, parts, yield)
	}
}
