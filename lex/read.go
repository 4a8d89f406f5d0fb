package lex

import (
	"iter"
	"strconv"
	"strings"
	"unicode/utf8"

	"quadrat/api"
)

// glyphs are those that a statement may have.
const glyphs = `+-×÷|⌊⌈*=≠<≤≥>∧∨~⍴,⌽⍉⍳≢⍋⍒↑↓∊/\∘.←()[]{};:⍺⍵∇⋄`

// reader reads tokens from a statement's beginning on.
type reader struct {
	rest string // what is not read yet
}

// skip leaves spaces out.
func (r *reader) skip() { r.rest = strings.TrimLeft(r.rest, " ") }

// take reads so many bytes.
func (r *reader) take(n int) string {
	s := r.rest[:n]
	r.rest = r.rest[n:]
	return s
}

// token reads the next token, and says whether it is one. Something must be left.
func (r *reader) token() (api.Token, bool) {
	read := r.chosen(first(r.rest))
	return read()
}

// chosen is what reads a token that begins with a character.
func (r *reader) chosen(c rune) func() (api.Token, bool) {
	switch {
	case beginsNumber(c):
		return r.numbers
	case c == '\'':
		return r.quoted
	case isLetter(c):
		return r.name
	}
	return r.glyph
}

// numbers reads as many numbers as follow one another. Spaces need not be asked for between them: what follows the digits of one of them without a space is no digit.
func (r *reader) numbers() (api.Token, bool) {
	var elems []int64
	for beginsNumber(first(r.rest)) {
		n, is := r.number()
		if !is {
			return api.Token{}, false
		}
		elems = append(elems, n)
		r.skip()
	}
	return value(api.KindNum, elems), true
}

// number reads a number, and says whether it is one of 64 bits. The sign is read together with the digits, as the least number has no opposite.
func (r *reader) number() (int64, bool) {
	sign := ""
	if strings.HasPrefix(r.rest, "¯") {
		r.take(len("¯"))
		sign = "-"
	}
	n, err := strconv.ParseInt(sign+r.take(span(r.rest, isDigit)), 10, 64)
	return n, err == nil
}

// quoted reads a value of characters, and says whether it is closed. A quote closes it unless another one follows, so it is the character behind it that tells.
func (r *reader) quoted() (api.Token, bool) {
	var elems []int64
	r.take(len("'"))
	closed, end := false, len(r.rest)
section:
	for at, c := range characters(r.rest) {
		switch {
		case c == '\'' && !closed:
			closed = true
		case c != '\'' && closed:
			end = at
			break section
		default:
			elems = append(elems, int64(c))
			closed = false
		}
	}
	r.take(end)
	return value(api.KindChar, elems), closed
}

// characters yields a text's characters with where they begin.
func characters(s string) iter.Seq2[int, rune] {
	return func(yield func(int, rune) bool) {
		for at, c := range s {
			if !yield(at, c) {
				return
			}
		}
	}
}

// value is the token of elements: one of them on its own is a scalar.
func value(kind int, elems []int64) api.Token {
	a := api.Array{Kind: kind, Elems: elems}
	if len(elems) != 1 {
		a.Shape = []int{len(elems)}
	}
	return api.Token{Kind: api.TokValue, Value: a}
}

// name reads a name.
func (r *reader) name() (api.Token, bool) {
	text := r.take(span(r.rest, isOfName))
	return api.Token{Kind: api.TokName, Text: text}, Names(text)
}

// glyph reads a glyph. A newline is told as the diamond that it stands for.
func (r *reader) glyph() (api.Token, bool) {
	text := r.take(utf8.RuneLen(first(r.rest)))
	if text == "\n" {
		text = "⋄"
	}
	return api.Token{Kind: api.TokGlyph, Text: text}, isGlyph(text)
}

// isGlyph says whether a text is a glyph.
func isGlyph(text string) bool {
	for _, c := range glyphs {
		if text == string(c) {
			return true
		}
	}
	return false
}

// Names says whether a text is a name.
func Names(s string) bool {
	return isLetter(first(s)) && len(s) <= api.MaxName && span(s, isOfName) == len(s)
}

// first is a text's first character. Where there is none, it is one that begins no token.
func first(s string) rune {
	c, _ := utf8.DecodeRuneInString(s)
	return c
}

// span is how many bytes the longest beginning of a text has that consists of such characters.
func span(s string, such func(c rune) bool) int {
	for at, c := range s {
		if !such(c) {
			return at
		}
	}
	return len(s)
}

// beginsNumber says whether a number may begin with a character.
func beginsNumber(c rune) bool { return c == '¯' || isDigit(c) }

// isDigit says whether a character is a digit of a number.
func isDigit(c rune) bool { return '0' <= c && c <= '9' }

// isLetter says whether a name may begin with a character.
func isLetter(c rune) bool { return 'A' <= c && c <= 'Z' || 'a' <= c && c <= 'z' }

// isOfName says whether a name may have a character behind its first one.
func isOfName(c rune) bool { return isLetter(c) || isDigit(c) || c == '_' }
