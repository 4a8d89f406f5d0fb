package lex

import (
	"iter"
	"strings"
	"unicode/utf8"
)

// Split is a program's statements.
func Split(s string) []string {
	var l []string
	for piece := range pieces(s) {
		if strings.Trim(piece, " ") != "" {
			l = append(l, piece)
		}
	}
	return l
}

// pieces yields what lies between a program's separators. No other character has a quote's byte, a brace's or a newline's, and none has a diamond's first byte behind its own first one: so to go through the program character by character finds what byte by byte would, also where it is not valid UTF-8.
func pieces(s string) iter.Seq[string] {
	return func(yield func(string) bool) {
		var n nesting
		begin := 0
		for i, c := range s {
			n.pass(c)
			if !isSeparator(c) || !n.isFree() {
				continue
			}
			if !yield(s[begin:i]) {
				return
			}
			begin = i + utf8.RuneLen(c)
		}
		yield(s[begin:])
	}
}

// isSeparator says whether statements are separated by a character.
func isSeparator(c rune) bool { return c == '\n' || c == '⋄' }

// nesting is what is open at a place in a program: a quoted section, and how many braces.
type nesting struct {
	quoted bool
	braces int
}

// pass takes note of a character.
func (n *nesting) pass(c rune) {
	switch {
	case c == '\'':
		n.quoted = !n.quoted
	case n.quoted:
	case c == '{':
		n.braces++
	case c == '}':
		n.braces = max(0, n.braces-1)
	}
}

// isFree says whether nothing is open.
func (n *nesting) isFree() bool { return !n.quoted && n.braces == 0 }
