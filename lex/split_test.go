package lex_test

import (
	"slices"
	"strings"
	"testing"

	"quadrat/lex"
)

// splits fails unless a program has the statements that are asked for.
func splits(t *testing.T, program string, asked ...string) {
	t.Helper()
	if got := lex.Split(program); !slices.Equal(got, asked) {
		t.Errorf("Split(%s): %q, want %q", short(program), got, asked)
	}
}

func TestSplitOfTheExample(t *testing.T) {
	splits(t, "a←1⋄b ⋄ ⋄ {⍵⋄1} 'x⋄'", "a←1", "b ", " {⍵⋄1} 'x⋄'")
}

func TestSplitOfNothing(t *testing.T) {
	splits(t, "")
	splits(t, " ")
	splits(t, "      ")
	splits(t, "\n")
	splits(t, "⋄")
	splits(t, "\n\n⋄⋄\n⋄")
	splits(t, "  \n ⋄   ⋄\n    ")
	splits(t, strings.Repeat(" ⋄\n", 10_000))
}

func TestSplitOfStatements(t *testing.T) {
	splits(t, "a", "a")
	splits(t, "1 + 2", "1 + 2")
	splits(t, "a\nb", "a", "b")
	splits(t, "a⋄b", "a", "b")
	splits(t, "a\nb⋄c\nd", "a", "b", "c", "d")
	splits(t, "\na", "a")
	splits(t, "a\n", "a")
	splits(t, "⋄a", "a")
	splits(t, "a⋄", "a")
	splits(t, "⋄\n⋄a\n⋄\n⋄⋄b⋄⋄", "a", "b")
	splits(t, "a⋄a\na", "a", "a", "a")
	splits(t, strings.Repeat("ab⋄c\n", 5000), slices.Repeat([]string{"ab", "c"}, 5000)...)
	splits(t, strings.Repeat("a", 1<<20)+"\n"+strings.Repeat("b", 1<<20), strings.Repeat("a", 1<<20), strings.Repeat("b", 1<<20))
}

// Statements are what stands between separators, unchanged; only those of spaces alone are none.
func TestSplitLeavesStatementsAsTheyAre(t *testing.T) {
	splits(t, " a", " a")
	splits(t, "a   ", "a   ")
	splits(t, "  a b  ⋄   c ", "  a b  ", "   c ")
	splits(t, " \n a \n ", " a ")
	splits(t, "\t", "\t")
	splits(t, " \t ⋄\t\t\n\r⋄\v⋄\f⋄\u00A0⋄\x00", " \t ", "\t\t", "\r", "\v", "\f", "\u00A0", "\x00")
	splits(t, "a\r\nb", "a\r", "b")
	splits(t, "@\n#⋄é", "@", "#", "é")
	splits(t, ")]⋄([", ")]", "([")
	splits(t, "(a⋄b)\n[c\nd]", "(a", "b)", "[c", "d]")
	splits(t, "\u2028⋄\u2029⋄\u0085", "\u2028", "\u2029", "\u0085")
}

func TestSplitOfQuotedSections(t *testing.T) {
	splits(t, "'⋄'", "'⋄'")
	splits(t, "'\n'", "'\n'")
	splits(t, "'a⋄b\nc'⋄d\n'⋄⋄'", "'a⋄b\nc'", "d", "'⋄⋄'")
	splits(t, "''⋄''", "''", "''")
	splits(t, "'⋄''⋄'⋄a", "'⋄''⋄'", "a")
	splits(t, "'''⋄'⋄'⋄''', a\nb", "'''⋄'", "'⋄''', a", "b")
	splits(t, "a'⋄'b⋄c", "a'⋄'b", "c")
	splits(t, "'  '⋄' '", "'  '", "' '")
	splits(t, "\"⋄\"", "\"", "\"")
	splits(t, "`⋄`\n’⋄‘", "`", "`", "’", "‘")
}

func TestSplitOfBraces(t *testing.T) {
	splits(t, "{⋄}", "{⋄}")
	splits(t, "{\n}", "{\n}")
	splits(t, "f←{⍵=0:1\n⍵×∇ ⍵-1}⋄f 10", "f←{⍵=0:1\n⍵×∇ ⍵-1}", "f 10")
	splits(t, "{{⋄}⋄}⋄a", "{{⋄}⋄}", "a")
	splits(t, "{⋄{\n{⋄}\n}⋄}\n{⋄}⋄a", "{⋄{\n{⋄}\n}⋄}", "{⋄}", "a")
	splits(t, "{}⋄{}\n{}", "{}", "{}", "{}")
	splits(t, "{⋄}{⋄}⋄a", "{⋄}{⋄}", "a")
	splits(t, "{⋄)]⋄}\na", "{⋄)]⋄}", "a")
	splits(t, strings.Repeat("{⋄", 1000)+strings.Repeat("\n}", 1000)+"⋄a", strings.Repeat("{⋄", 1000)+strings.Repeat("\n}", 1000), "a")
}

// A brace that closes none does not count against one that is opened behind it.
func TestSplitBehindABraceThatClosesNone(t *testing.T) {
	splits(t, "}⋄a", "}", "a")
	splits(t, "}}}}⋄a\nb", "}}}}", "a", "b")
	splits(t, "}{⋄}⋄a", "}{⋄}", "a")
	splits(t, "}}{⋄}\n{⋄}⋄a", "}}{⋄}", "{⋄}", "a")
	splits(t, "{⋄}}⋄{⋄}⋄a", "{⋄}}", "{⋄}", "a")
	splits(t, "}⋄}⋄}\n{\n}\n}", "}", "}", "}", "{\n}", "}")
	splits(t, "}{{⋄}⋄}⋄a", "}{{⋄}⋄}", "a")
}

func TestSplitBehindWhatIsNeverClosed(t *testing.T) {
	splits(t, "'", "'")
	splits(t, "a⋄'b⋄c\nd", "a", "'b⋄c\nd")
	splits(t, "'a''⋄b", "'a''⋄b")
	splits(t, "'a'⋄'''⋄b\n", "'a'", "'''⋄b\n")
	splits(t, "{", "{")
	splits(t, "a⋄{b⋄c\nd", "a", "{b⋄c\nd")
	splits(t, "{{⋄}⋄a\nb", "{{⋄}⋄a\nb")
	splits(t, "a\n{⋄'}⋄\nb", "a", "{⋄'}⋄\nb")
	splits(t, "a\n'{⋄}⋄\nb", "a", "'{⋄}⋄\nb")
}

// What is quoted within braces opens and closes none, and what stands within a quoted section neither.
func TestSplitOfQuotesAndBraces(t *testing.T) {
	splits(t, "{'}'⋄}⋄a", "{'}'⋄}", "a")
	splits(t, "{'{'⋄}⋄a", "{'{'⋄}", "a")
	splits(t, "{'⋄'}⋄a", "{'⋄'}", "a")
	splits(t, "'{'⋄a", "'{'", "a")
	splits(t, "'}'⋄a", "'}'", "a")
	splits(t, "'{⋄'⋄'}'⋄a", "'{⋄'", "'}'", "a")
	splits(t, "{'''}'⋄'}'}⋄a", "{'''}'⋄'}'}", "a")
	splits(t, "{'}⋄''⋄}'⋄\n}\na", "{'}⋄''⋄}'⋄\n}", "a")
	splits(t, "}'{'⋄{'}'\n}⋄a", "}'{'", "{'}'\n}", "a")
}

// Only all three bytes of a diamond, one behind the other, are one.
func TestSplitOfBytes(t *testing.T) {
	splits(t, "a\xE2\x8B\x84b", "a", "b")
	splits(t, "a\xE2\x8Bb\x84", "a\xE2\x8Bb\x84")
	splits(t, "a\xE2\x8B\nb\x84c", "a\xE2\x8B", "b\x84c")
	splits(t, "\xE2\n\x8B\x84", "\xE2", "\x8B\x84")
	splits(t, "\xE2 \x8B\x84", "\xE2 \x8B\x84")
	splits(t, "\x8B\x84⋄\xE2\x8B", "\x8B\x84", "\xE2\x8B")
	splits(t, "\xE2'\x8B\x84\n", "\xE2'\x8B\x84\n")
	splits(t, "\xE2\x8B'⋄'\x84⋄a", "\xE2\x8B'⋄'\x84", "a")
	splits(t, "\xE2{\x8B\x84⋄}\n\x84", "\xE2{\x8B\x84⋄}", "\x84")
	splits(t, "∧⋄∨\u22C3\u22C5⋄\u22C4", "∧", "∨\u22C3\u22C5")
	for _, ahead := range []string{"\xE2", "\xE2\x8B", "\xF0", "\xF0\x9F", "\xF0\x9F\x98", "\xC3", "\x84", "\xFF", "\xED\xA0"} {
		splits(t, ahead+"⋄b", ahead, "b")
		splits(t, ahead+"\nb⋄c", ahead, "b", "c")
		splits(t, ahead+"'⋄'⋄b", ahead+"'⋄'", "b")
		splits(t, ahead+"{⋄}⋄b", ahead+"{⋄}", "b")
		splits(t, "{"+ahead+"}⋄b", "{"+ahead+"}", "b")
		splits(t, "'"+ahead+"'⋄b", "'"+ahead+"'", "b")
	}
	splits(t, "\xFF\xFE⋄ \xC0\x80 ⋄", "\xFF\xFE", " \xC0\x80 ")
}

// named fails unless Names says of a text what is asked for, and Tokens reads it as one name only if it is one.
func named(t *testing.T, s string, asked bool) {
	t.Helper()
	if got := lex.Names(s); got != asked {
		t.Errorf("Names(%s): %t", short(s), got)
	}
	l, _ := lex.Tokens(s)
	if is := len(l) == 1 && equal(l[0], name(s)); is != asked {
		t.Errorf("Tokens(%s): %v, but it is a name: %t", short(s), l, asked)
	}
}

func TestNames(t *testing.T) {
	for _, s := range []string{"a", "z", "A", "Z", "it", "x1", "a_", "A__9", "a0123456789", "abcdefghijkl", "ABCDEFGHIJKL", "a___________", "z99999999999", "aZ09_zA", "x_1"} {
		named(t, s, true)
	}
	for _, s := range []string{
		"", "abcdefghijklm", "a____________", "a1234567890123", strings.Repeat("a", 24), strings.Repeat("a", 1<<16+1),
		"1", "1a", "_", "_a", "0", "9z", "__", "é", "aé", "éa", "ä", "aÄ", "а", "aа", "α", "ａ", "a１", "a²", "aª", "aſ", "\u212A", "a\u212A", "a\u0301",
		"+", "⍵", "⍺", "∇", "a+", "+a", "a.b", "a-b", "a⍵", "'a'", "a'", "a ", " a", "a b", " ", "a\n", "\na", "a\t", "a\x00", "\x00",
		"@", "[", "`", "{", "a@", "a[", "a`", "a{", "a/", "a:", "a^", "\xFF", "a\xFF", "\xFFa", "a\xC3", "¯", "a¯", "a⋄",
	} {
		if lex.Names(s) {
			t.Errorf("Names(%s): true", short(s))
		}
	}
	for _, s := range []string{"", "abcdefghijklm", "1", "1a", "_", "_a", "é", "aé", "+", "⍵", "a+", "'a'", "a b", "a\n", "a\xFF"} {
		named(t, s, false)
	}
}

// Every byte as a name, and as its second one.
func TestNamesOfAllBytes(t *testing.T) {
	const letters = "ABCDEFGHIJKLMNOPQRSTUVWXYZabcdefghijklmnopqrstuvwxyz"
	for b := range 256 {
		one := string([]byte{byte(b)})
		named(t, one, strings.Contains(letters, one))
		named(t, "a"+one+"b", strings.Contains(letters+"0123456789_", one))
	}
}

// Names are counted by their bytes.
func TestNamesOfAllLengths(t *testing.T) {
	for n := range 40 {
		for _, part := range []string{"a", "Z", "0", "_"} {
			named(t, "b"+strings.Repeat(part, n), n+1 <= 12)
			if lex.Names("é" + strings.Repeat(part, n)) {
				t.Errorf("a name begins with é")
			}
		}
	}
}
