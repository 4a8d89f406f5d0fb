package lex_test

import (
	"slices"
	"strconv"
	"strings"
	"testing"
	"unicode"

	"quadrat/api"
	"quadrat/lex"
)

func TestNoTokens(t *testing.T) {
	reads(t, "")
	reads(t, " ")
	reads(t, strings.Repeat(" ", 100_000))
}

func TestNameTokens(t *testing.T) {
	reads(t, "a", name("a"))
	reads(t, "abcdefghijkl", name("abcdefghijkl"))
	reads(t, "x_1", name("x_1"))
	reads(t, "a_", name("a_"))
	reads(t, "a__b", name("a__b"))
	reads(t, "A1b2C3", name("A1b2C3"))
	reads(t, "a b  c", name("a"), name("b"), name("c"))
	reads(t, "1abcdefghijkl", num(1), name("abcdefghijkl"))
	reads(t, "f⍵", name("f"), glyph("⍵"))
	reads(t, "a[1;]", name("a"), glyph("["), num(1), glyph(";"), glyph("]"))
	reads(t, "a\nb", name("a"), glyph("⋄"), name("b"))
	reads(t, "f.g", name("f"), glyph("."), name("g"))
}

// A name that is too long is not cut into several.
func TestNamesThatAreNone(t *testing.T) {
	for _, s := range []string{"abcdefghijklm", "a____________", "a123456789012", "1abcdefghijklm", "1 2 abcdefghijklm1", "abcdefghijklmnopqrstuvwxyz", strings.Repeat("ab", 12), "+abcdefghijklm", "_", "_a", "a _", "a _b", "1_a", "+_", "é", "aé", "éa", "abcdefghijklé"} {
		refuses(t, s)
	}
	refuses(t, strings.Repeat("z", 100_000))
}

func TestGlyphs(t *testing.T) {
	if n := len(signs()); n != 45 {
		t.Fatalf("the test itself has %d glyphs", n)
	}
	for _, s := range signs() {
		reads(t, s, glyph(s))
		reads(t, s+s, glyph(s), glyph(s))
		reads(t, s+"  "+s, glyph(s), glyph(s))
		reads(t, "a"+s+"1", name("a"), glyph(s), num(1))
		reads(t, "1"+s+"a", num(1), glyph(s), name("a"))
		reads(t, "'b'"+s+"'c'", char('b'), glyph(s), char('c'))
		for _, z := range signs() {
			reads(t, s+z, glyph(s), glyph(z))
			reads(t, s+" "+z, glyph(s), glyph(z))
		}
	}
	var l []api.Token
	for _, s := range signs() {
		l = append(l, glyph(s))
	}
	reads(t, strings.Join(signs(), ""), l...)
	reads(t, strings.Join(signs(), "   "), l...)
}

// A newline is a diamond, and not a token of its own.
func TestNewlines(t *testing.T) {
	reads(t, "\n", glyph("⋄"))
	reads(t, "\n\n", glyph("⋄"), glyph("⋄"))
	reads(t, "\n⋄ \n", glyph("⋄"), glyph("⋄"), glyph("⋄"))
	reads(t, "{⍵=0:1\n⍵}", glyph("{"), glyph("⍵"), glyph("="), num(0), glyph(":"), num(1), glyph("⋄"), glyph("⍵"), glyph("}"))
	l, e := lex.Tokens("a\n1")
	want(t, "a newline", e, api.OK)
	shows(t, "a ⋄ 1", l...)
	l, e = lex.Tokens("\n")
	want(t, "a newline alone", e, api.OK)
	shows(t, "⋄", l...)
}

func TestWhatIsNoToken(t *testing.T) {
	for _, s := range []string{
		"@", "#", "$", "%", "&", "!", "?", "^", "\"", "`", "\\@", "_", "\t", "\r", "\v", "\f", "\x00", "\x7F", "\x1B", "\u00A0", "\u2003", "\u2028", "\u0085", "\uFEFF", "\u200B",
		"é", "ä", "α", "а", "ａ", "１", "⍬", "⎕", "⍎", "⍕", "⊃", "⊂", "∩", "∪", "⍟", "○", "⌹", "⍱", "⍲", "⊤", "⊥", "⌷", "¨", "⍨", "⍣", "⍤", "⌿", "⍀", "⊖", "∆", "→", "⍝", "≡", "∈", "ε", "ρ", "ι", "ω", "−", "‾", "’", "◊", "◇", "⬦", "∣", "❘", "∗", "⁎", "✕", "•", "∙", "：", "∼", "˜", "😀", "\uFFFD", "\U0010FFFF", "\r\n",
	} {
		refuses(t, s)
		refuses(t, s+s)
	}
}

// Every character, as a statement of its own and among others.
func TestAllCharacters(t *testing.T) {
	known := map[rune]bool{}
	for _, s := range signs() {
		for _, c := range s {
			known[c] = true
		}
	}
	for c := rune(0); c <= unicode.MaxRune; c++ {
		if 0xD800 <= c && c <= 0xDFFF || c == ' ' {
			continue
		}
		asked := []api.Token{glyph(string(c))}
		switch {
		case '0' <= c && c <= '9':
			asked = []api.Token{num(int64(c - '0'))}
		case 'a' <= c && c <= 'z', 'A' <= c && c <= 'Z':
			asked = []api.Token{name(string(c))}
		case c == '\n':
			asked = []api.Token{glyph("⋄")}
		case !known[c]:
			asked = nil
		}
		l, e := lex.Tokens(string(c))
		if asked == nil && e != api.ErrSyntax || asked != nil && e != api.OK || len(l) != len(asked) || len(l) == 1 && !equal(l[0], asked[0]) {
			t.Errorf("Tokens(%q): error %d and %v", c, e, l)
		}
	}
}

func TestBytesThatAreNoText(t *testing.T) {
	for _, s := range []string{"\xFF", "\x80", "\xC3", "\xC0\x80", "\xE2\x8D", "\xE2\x8B", "\xED\xA0\x80", "\xED\xBF\xBF", "\xF4\x90\x80\x80", "\xF0\x9F\x98", "\xC2", "\xAF", "\x8B\x84", "\xF8\x88\x80\x80\x80", "\xE9"} {
		refuses(t, s)
		refuses(t, "'"+s+"'")
		refuses(t, "'a"+s+"b'")
		refuses(t, "'"+s+"''"+s+"'")
		fails(t, s+"1+2", api.ErrSyntax)
		fails(t, "1+"+s+"2", api.ErrSyntax)
		fails(t, "1+2"+s, api.ErrSyntax)
		fails(t, "a"+s, api.ErrSyntax)
		fails(t, "12"+s+"34", api.ErrSyntax)
		fails(t, "{'a'\n"+s+"}", api.ErrSyntax)
	}
	reads(t, "'\uFFFD'", char(0xFFFD)) // the character that stands for such bytes elsewhere
}

// of4000 are 4000 tokens of one kind, as a text.
func of4000() map[string]api.Token {
	return map[string]api.Token{
		strings.Repeat("+", 4000):       glyph("+"),
		strings.Repeat("⍵ ", 4000):      glyph("⍵"),
		strings.Repeat("\n", 4000):      glyph("⋄"),
		strings.Repeat(" ab_1  ", 4000): name("ab_1"),
		strings.Repeat("'a' ", 4000):    char('a'),
		strings.Repeat("'' ", 4000):     chars(),
	}
}

func TestAsManyTokensAsMayBe(t *testing.T) {
	for s, token := range of4000() {
		reads(t, s, slices.Repeat([]api.Token{token}, 4000)...)
		for _, more := range []string{"+", "1", "a", "''", "\n", "1 2 3", s} {
			fails(t, s+more, api.ErrLimit)
			fails(t, more+" "+s, api.ErrLimit)
		}
	}
	reads(t, strings.Repeat("1+", 2000), slices.Repeat([]api.Token{num(1), glyph("+")}, 2000)...)
	fails(t, strings.Repeat("1+", 2000)+"1", api.ErrLimit)
	reads(t, strings.Repeat("+", 3999)+"1 2 3", append(slices.Repeat([]api.Token{glyph("+")}, 3999), nums(1, 2, 3))...)
	fails(t, strings.Repeat("a+", 100_000), api.ErrLimit)
}

// tooMuch are statements beyond the limits.
func tooMuch() []string {
	_, numbers := first(4097, " ")
	return []string{
		strings.Repeat("+", 4001),
		strings.Repeat("ab 1 ", 2001),
		numbers,
		"'" + strings.Repeat("a", 4097) + "'",
		"1+'" + strings.Repeat("⋄", 4097) + "'⍳" + numbers,
		strings.Repeat("+", 4001) + numbers,
	}
}

func TestFaultsOfSyntaxComeFirst(t *testing.T) {
	for _, s := range tooMuch() {
		fails(t, s, api.ErrLimit)
		for _, fault := range []string{"@", "¯", "'", "_", "\t", "abcdefghijklm", "9223372036854775808", "¯9223372036854775809", "\xFF", "'\xFF'", "é", "¯¯1"} {
			fails(t, s+" "+fault, api.ErrSyntax)
			if fault != "'" {
				fails(t, fault+" "+s, api.ErrSyntax)
				fails(t, s+" "+fault+" "+s, api.ErrSyntax)
			}
		}
	}
}

// A statement's limits are not those of its bytes or its spaces.
func TestLongStatements(t *testing.T) {
	spaces := strings.Repeat(" ", 1<<20)
	reads(t, spaces+"a"+spaces+"+"+spaces+"1"+spaces, name("a"), glyph("+"), num(1))
	l, e := lex.Tokens(strings.Repeat(strconv.Itoa(1<<62)+"+", 2000))
	want(t, "many long numbers", e, api.OK)
	are(t, "many long numbers", l, slices.Repeat([]api.Token{num(1 << 62), glyph("+")}, 2000))
}
