package lex_test

import (
	"slices"
	"strings"
	"testing"

	"quadrat/api"
	"quadrat/lex"
)

// again fails unless tokens that Tokens could answer are read again out of their representation.
func again(t *testing.T, l ...api.Token) {
	t.Helper()
	shown := lex.Show(l)
	got, e := lex.Tokens(shown)
	want(t, short(shown), e, api.OK)
	are(t, short(shown), got, l)
	if more := lex.Show(got); more != shown {
		t.Errorf("%s is shown as %s", short(shown), short(more))
	}
}

func TestRepresentationsAreReadAgain(t *testing.T) {
	l := []api.Token{num(0), num(-7), num(least), num(greatest), nums(1, 2), nums(-1, least, greatest), char('a'), char('\''), char(' '), char('\n'), char(0), chars(), text("it's"), text("''"), text("⋄\n{}"), text("1 2"), chars(0x10FFFF, 0xE000, 0), name("a"), name("abcdefghijkl"), name("x_1")}
	for _, s := range signs() {
		l = append(l, glyph(s))
	}
	for _, a := range l {
		again(t, a)
		for _, b := range l {
			if a.Value.Kind != 1 || b.Value.Kind != 1 {
				again(t, a, b)
				again(t, b, a, glyph("⍴"), b)
			}
		}
	}
	numbers, _ := first(4096, " ")
	again(t, nums(numbers...), text(strings.Repeat("'", 4096)), nums(numbers...))
	again(t, slices.Repeat([]api.Token{num(1), name("a")}, 2000)...)
}

// The tokens of any statement that is read are read again, as they are those of its representation.
func TestRepresentationsOfStatements(t *testing.T) {
	for _, s := range []string{"", "a←1", "x1←1¯2+3", "1 2'ab'", "1a'b'c''3¯4", "f←{⍵=0:1\n⍵×∇ ⍵-1}", "'\n⋄'⋄\n⋄", "a[1;2 3;]←+/∘.×\\~b", "  007  ¯00 ", "'it''s'''''", "''\n''", "1\n2⋄3"} {
		l, e := lex.Tokens(s)
		if s == "'it''s'''''" { // a text's quotes are read from the left, so this is one value
			are(t, s, l, []api.Token{text("it's''")})
		}
		want(t, s, e, api.OK)
		again(t, l...)
	}
}

// Spaces around a text make no difference, be it a statement or none.
func TestSpacesAroundStatements(t *testing.T) {
	for _, s := range []string{"", "a", "1 2", "'a'", "'", "@", "¯", "+", "a b", "{\n}", "' '", strings.Repeat("+", 4001), "1_", "\t", "\xFF", "'\xFF'"} {
		asked, e := lex.Tokens(s)
		for _, around := range []string{" " + s, s + " ", "   " + s + "     ", strings.Repeat(" ", 5000) + s} {
			got, fault := lex.Tokens(around)
			want(t, short(around), fault, e)
			are(t, short(around), got, asked)
		}
	}
}

// freeOf says whether a statement has none of the separators outside of quoted sections and braces.
func freeOf(s string) bool {
	quoted, open := false, 0
	for _, c := range []rune(s) {
		if c == '\'' {
			quoted = !quoted
			continue
		}
		if quoted {
			continue
		}
		switch {
		case c == '{':
			open++
		case c == '}' && open > 0:
			open--
		case open == 0 && (c == '\n' || c == '⋄'):
			return false
		}
	}
	return true
}

// Each statement is a piece that is not blank, has no separator that could divide it further, and is found in the program behind the one ahead of it.
func TestStatementsAreWhole(t *testing.T) {
	check := func(s string) {
		rest := s
		for _, statement := range lex.Split(s) {
			at := strings.Index(rest, statement)
			if !freeOf(statement) || strings.Trim(statement, " ") == "" || at < 0 {
				t.Fatalf("Split(%s) has %q", short(s), statement)
			}
			if strings.Trim(rest[:at], " \n⋄") != "" {
				t.Errorf("Split(%s) leaves out what is ahead of %q", short(s), statement)
			}
			splits(t, statement, statement)
			rest = rest[at+len(statement):]
		}
		if strings.Trim(rest, " \n⋄") != "" {
			t.Errorf("Split(%s) leaves out %q", short(s), rest)
		}
	}
	all(6, []string{" ", "'", "{", "}", "\n", "⋄", "a"}, check)
	r := noise(20)
	for n := range 500 {
		check(r.made(n%80, parts()))
	}
}

// Pieces that are valid on their own, joined by separators of either kind, are the statements again.
func TestPiecesThatAreJoined(t *testing.T) {
	pieces := []string{"a", " b ", "{⋄\n}", "'⋄\n'", "}", "1 2", "\t", "{'}'}", "''''", "@", "\xFF", "f←{⍵=0:1\n⍵}"}
	r := noise(21)
	for n := range 200 {
		program, asked := "", []string{}
		for range n % 40 {
			piece := pieces[r.below(len(pieces))]
			program += piece + r.made(1+r.below(3), []string{"\n", "⋄", " \n", "⋄  ⋄"})
			asked = append(asked, piece)
		}
		got := lex.Split(program)
		if len(got) != len(asked) {
			t.Fatalf("Split(%s): %d statements, want %d", short(program), len(got), len(asked))
		}
		for i := range got {
			if strings.Trim(got[i], " ") != strings.Trim(asked[i], " ") {
				t.Errorf("Split(%s): statement %d is %q, want %q", short(program), i, got[i], asked[i])
			}
		}
	}
}
