package lex_test

import (
	"math/big"
	"regexp"
	"slices"
	"strings"
	"testing"
	"unicode/utf8"

	"quadrat/api"
	"quadrat/lex"
)

// modelSplit are a program's statements, found byte by byte as the chapter words it.
func modelSplit(s string) []string {
	l, piece, quoted, open := []string{}, "", false, 0
	end := func() {
		if strings.ReplaceAll(piece, " ", "") != "" {
			l = append(l, piece)
		}
		piece = ""
	}
	for at := 0; at < len(s); at++ {
		free := !quoted && open == 0
		if free && s[at] == 10 {
			end()
			continue
		}
		if free && strings.HasPrefix(s[at:], "\xE2\x8B\x84") {
			end()
			at += 2
			continue
		}
		piece += s[at : at+1]
		if s[at] == '\'' {
			quoted = !quoted
		} else if !quoted && s[at] == '{' {
			open++
		} else if !quoted && s[at] == '}' && open > 0 {
			open--
		}
	}
	end()
	return l
}

var (
	numbersForm = regexp.MustCompile(`^¯?[0-9]+( *¯[0-9]+| +[0-9]+)*`)
	numberForm  = regexp.MustCompile(`¯?[0-9]+`)
	quotedForm  = regexp.MustCompile(`^'([^']|'')*'`)
	nameForm    = regexp.MustCompile(`^[A-Za-z][A-Za-z0-9_]*`)
)

// modelTokens are a statement's, taken off its beginning by forms of theirs; whether it is one; and whether it is within the limits.
func modelTokens(s string) (l []api.Token, is, within bool) {
	within = true
	for {
		s = strings.TrimLeft(s, " ")
		if s == "" {
			return l, true, within && len(l) <= 4000
		}
		token, n := modelToken(s)
		if n == 0 {
			return nil, false, false
		}
		l = append(l, token)
		within = within && len(token.Value.Elems) <= 4096
		s = s[n:]
	}
}

// modelToken is the token that a text begins with, and its bytes: 0 if it begins with none.
func modelToken(s string) (api.Token, int) {
	if form := numbersForm.FindString(s); form != "" {
		token, is := modelNumbers(form)
		if !is {
			return api.Token{}, 0
		}
		return token, len(form)
	}
	if form := quotedForm.FindString(s); form != "" {
		l := []rune(strings.ReplaceAll(form[1:len(form)-1], "''", "'"))
		if len(l) == 1 {
			return char(l[0]), len(form)
		}
		return chars(l...), len(form)
	}
	if form := nameForm.FindString(s); form != "" {
		if len(form) > 12 {
			return api.Token{}, 0
		}
		return name(form), len(form)
	}
	if s[0] == '\n' {
		return glyph("⋄"), 1
	}
	for _, sign := range signs() {
		if strings.HasPrefix(s, sign) {
			return glyph(sign), len(sign)
		}
	}
	return api.Token{}, 0
}

// modelNumbers is the value of numbers, read as numbers that are never too great.
func modelNumbers(form string) (api.Token, bool) {
	var l []int64
	for _, number := range numberForm.FindAllString(form, -1) {
		n, _ := new(big.Int).SetString(strings.Replace(number, "¯", "-", 1), 10)
		if !n.IsInt64() {
			return api.Token{}, false
		}
		l = append(l, n.Int64())
	}
	if len(l) == 1 {
		return num(l[0]), true
	}
	return nums(l...), true
}

// agrees fails unless Tokens answers what the model does; what it answers must be read again out of its representation.
func agrees(t *testing.T, s string) {
	t.Helper()
	l, e := lex.Tokens(s)
	asked, is, within := modelTokens(s)
	switch {
	case !utf8.ValidString(s) || !is:
		asked, is = nil, false
		want(t, short(s), e, api.ErrSyntax)
	case !within:
		asked, is = nil, false
		want(t, short(s), e, api.ErrLimit)
	default:
		want(t, short(s), e, api.OK)
	}
	are(t, short(s), l, asked)
	if is {
		shown := lex.Show(l)
		again, e := lex.Tokens(shown)
		want(t, short(shown), e, api.OK)
		are(t, short(shown), again, asked)
	}
}

// divides fails unless Split answers what the model does.
func divides(t *testing.T, s string) {
	t.Helper()
	if got, asked := lex.Split(s), modelSplit(s); !slices.Equal(got, asked) {
		t.Errorf("Split(%s): %q, want %q", short(s), got, asked)
	}
}

func TestTokensOfAllShortTexts(t *testing.T) {
	all(4, []string{" ", "1", "0", "¯", "'", "a", "_", "+", "⍵", "\n", "⋄", "@", "é", "\t", "\xE2", "-"}, func(s string) { agrees(t, s) })
	all(7, []string{" ", "1", "¯", "'", "a"}, func(s string) { agrees(t, s) })
	all(12, []string{"'", "a"}, func(s string) { agrees(t, s) })
	all(10, []string{"'", " ", "1"}, func(s string) { agrees(t, s) })
	all(9, []string{"a", "1", "¯"}, func(s string) { agrees(t, s) })
}

func TestSplitOfAllShortTexts(t *testing.T) {
	all(5, []string{" ", "'", "{", "}", "\n", "⋄", "a", "\xE2", "\x8B", "\x84"}, func(s string) { divides(t, s) })
	all(8, []string{"'", "{", "}", "\n"}, func(s string) { divides(t, s) })
	all(8, []string{"\xE2", "\x8B", "\x84", "'"}, func(s string) { divides(t, s) })
	all(8, []string{" ", "⋄", "\t", "{"}, func(s string) { divides(t, s) })
}

// parts are what longer texts are made of: mostly such as make statements.
func parts() []string {
	l := append(signs(), signs()...)
	return append(l, " ", " ", "  ", "1", "12", "¯3", "¯", "1 2", "0", "007", "9223372036854775807", "¯9223372036854775808", "a", "b_2", "abcdefghijkl", "'a'", "''", "'it''s'", "'⋄\n'", "\n", "{", "}", "{⍵}", "'", "x")
}

func TestTokensOfLongerTexts(t *testing.T) {
	r := noise(17)
	for n := range 400 {
		for range 20 {
			agrees(t, r.made(n%60, parts()))
		}
	}
	wrong := append(parts(), "@", "_", "\t", "é", "\xFF", "9223372036854775808", "abcdefghijklm")
	for n := range 400 {
		for range 10 {
			agrees(t, r.made(n%12, wrong))
		}
	}
}

func TestSplitOfLongerTexts(t *testing.T) {
	r := noise(18)
	for n := range 400 {
		for range 20 {
			divides(t, r.made(n%60, append(parts(), "\xE2", "\x8B\x84", "⋄", "\n", "\xFF")))
		}
	}
}

// Texts of many tokens, and of long values, about the limits.
func TestTokensAboutTheLimits(t *testing.T) {
	r := noise(19)
	for n := 3996; n <= 4004; n++ {
		agrees(t, strings.Repeat("+", n))
		agrees(t, strings.Repeat("a ", n-7)+r.made(7, []string{"+", "'a'", "b+"}))
		agrees(t, "'"+r.made(n+96, []string{"a", "''", "é", " "})+"'")
		agrees(t, r.made(n+96, []string{"1 ", "¯2", " 34 "}))
	}
}
