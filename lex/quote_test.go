package lex_test

import (
	"slices"
	"strings"
	"testing"

	"quadrat/api"
)

func TestCharacters(t *testing.T) {
	reads(t, "''", chars())
	reads(t, "'a'", char('a'))
	reads(t, "' '", char(' '))
	reads(t, "'ab'", text("ab"))
	reads(t, "'it''s'", text("it's"))
	reads(t, "'  '", text("  "))
	reads(t, "' a b '", text(" a b "))
	reads(t, "'12 ¯3'", text("12 ¯3"))
	reads(t, "'a+b←{⍵}'", text("a+b←{⍵}"))
	reads(t, "'@#\"\t\r\\'", text("@#\"\t\r\\"))
}

func TestDoubledQuotes(t *testing.T) {
	reads(t, "''''", char('\''))
	reads(t, "''''''", text("''"))
	reads(t, "'a'''", text("a'"))
	reads(t, "'''a'", text("'a"))
	reads(t, "'''a'''", text("'a'"))
	reads(t, "'a''''b'", text("a''b"))
	reads(t, "''' '''", text("' '"))
	for n := range 20 {
		if n != 1 {
			reads(t, "'"+strings.Repeat("''", n)+"'", text(strings.Repeat("'", n)))
		}
	}
}

func TestQuotesThatAreNeverClosed(t *testing.T) {
	for _, s := range []string{"'", "'a", "'''", "'a''", "''a'", "'a'b'", "a'", "1'", "1 2'a", "'a' '", "'⋄", "'''''", "'a\n", "' ", "{'}", "('a)", "'" + strings.Repeat("''", 1000)} {
		fails(t, s, api.ErrSyntax)
		fails(t, "1 a "+s, api.ErrSyntax)
		fails(t, "{'x''y'⋄"+s, api.ErrSyntax)
	}
	fails(t, "'"+strings.Repeat("a", 5000), api.ErrSyntax)
}

// A separator among characters is one of them.
func TestSeparatorsAmongCharacters(t *testing.T) {
	reads(t, "'\n'", char('\n'))
	reads(t, "'⋄'", char('⋄'))
	reads(t, "'a\nb⋄'", text("a\nb⋄"))
	reads(t, "{'\n'\n'⋄⋄'⋄''}", glyph("{"), char('\n'), glyph("⋄"), text("⋄⋄"), glyph("⋄"), chars(), glyph("}"))
}

// Characters are runes, however many bytes they have.
func TestRunesOfAllLengths(t *testing.T) {
	for _, c := range []rune{0, 1, 9, 10, 13, 31, 32, 33, 126, 127, 0x80, 0xAF, 0xE9, 0x7FF, 0x800, 0x2374, 0x22C4, 0xD7FF, 0xE000, 0xFEFF, 0xFFFD, 0xFFFE, 0xFFFF, 0x10000, 0x1F600, 0x10FFFE, 0x10FFFF} {
		s := string(c)
		reads(t, "'"+s+"'", char(c))
		reads(t, "'"+s+s+"'", chars(c, c))
		reads(t, "'a"+s+"'''", chars('a', c, '\''))
		reads(t, "'"+s+"'a'"+s+"'", char(c), name("a"), char(c))
	}
	reads(t, "'e\u0301'", chars('e', 0x301)) // two characters, if they look like one
	reads(t, "'é⍵😀\x00'", chars(0xE9, '⍵', 0x1F600, 0))
}

// Behind a value of characters, and right ahead of it, may stand any other token.
func TestWhatStandsBesideCharacters(t *testing.T) {
	reads(t, "'a''b'", text("a'b")) // no value that follows one, but a doubled quote
	reads(t, "'a' 'b'", char('a'), char('b'))
	reads(t, "'a'  ''", char('a'), chars())
	reads(t, "'' 'ab' ''", chars(), text("ab"), chars())
	reads(t, "1'a'", num(1), char('a'))
	reads(t, "1 2'ab'3 4", nums(1, 2), text("ab"), nums(3, 4))
	reads(t, "'a'¯1", char('a'), num(-1))
	reads(t, "a'a'a", name("a"), char('a'), name("a"))
	reads(t, "a1'a'1a", name("a1"), char('a'), num(1), name("a"))
	reads(t, "'a'⍳'b'", char('a'), glyph("⍳"), char('b'))
	reads(t, "('')", glyph("("), chars(), glyph(")"))
	reads(t, "'a'\n'b'", char('a'), glyph("⋄"), char('b'))
	refuses(t, "'a'_")
	refuses(t, "'a'@'b'")
}

// It is the characters that count, and not their bytes; a doubled quote is one.
func TestAsManyCharactersAsMayBe(t *testing.T) {
	for _, c := range []struct {
		in string
		is rune
	}{{"a", 'a'}, {"é", 0xE9}, {"⍵", '⍵'}, {"😀", 0x1F600}, {"''", '\''}, {"\n", '\n'}, {" ", ' '}} {
		for _, n := range []int{2, 4095, 4096} {
			reads(t, "'"+strings.Repeat(c.in, n)+"'", chars(slices.Repeat([]rune{c.is}, n)...))
		}
		for _, n := range []int{4097, 4098, 10_000} {
			fails(t, "'"+strings.Repeat(c.in, n)+"'", api.ErrLimit)
			fails(t, "a 1 '"+strings.Repeat(c.in, n)+"'+2", api.ErrLimit)
		}
	}
}
