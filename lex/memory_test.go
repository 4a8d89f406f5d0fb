package lex_test

import (
	"slices"
	"strings"
	"sync"
	"testing"

	"quadrat/api"
	"quadrat/lex"
)

// spread writes over a list, and into the room behind it.
func spread[N int | int64](l []N) {
	for i := range l {
		l[i] = 88
	}
	_ = append(l, 88, 88, 88)
}

// spreadTokens writes over tokens, the lists of their values, and the room behind all of them.
func spreadTokens(l []api.Token) {
	for i := range l {
		spread(l[i].Value.Shape)
		spread(l[i].Value.Elems)
		l[i] = api.Token{Kind: 88, Text: "spread"}
	}
	_ = append(l, api.Token{Kind: 88})
}

// copied are equal tokens in memory of their own, with room behind each list, where 55 stands.
func copied(l []api.Token) []api.Token {
	var c []api.Token
	for _, token := range l {
		token.Value.Shape = append(slices.Clone(token.Value.Shape), 55, 55)[:len(token.Value.Shape)]
		token.Value.Elems = append(slices.Clone(token.Value.Elems), 55, 55)[:len(token.Value.Elems)]
		c = append(c, token)
	}
	return append(c, glyph("room"))[:len(c)]
}

// untouched fails unless tokens that copied answered are as they were, and so is their room.
func untouched(t *testing.T, what string, l, was []api.Token) {
	t.Helper()
	if len(l) != len(was) || !equal(l[:len(l)+1][len(l)], glyph("room")) {
		t.Errorf("%s: the list was written to", what)
	}
	for i := range l {
		shape, elems := l[i].Value.Shape, l[i].Value.Elems
		room := slices.Equal(shape[:len(shape)+2][len(shape):], []int{55, 55}) && slices.Equal(elems[:len(elems)+2][len(elems):], []int64{55, 55})
		if !equal(l[i], was[i]) || !room {
			t.Errorf("%s: token %d was written to", what, i)
		}
	}
}

const sample = "a 1 2 'it''s'{⍵\n'b' ''}3¯4'cd'5"

// sampled are the tokens of that statement.
func sampled() []api.Token {
	return []api.Token{name("a"), nums(1, 2), text("it's"), glyph("{"), glyph("⍵"), glyph("⋄"), char('b'), chars(), glyph("}"), nums(3, -4), text("cd"), num(5)}
}

// What is done to an answer changes no other one.
func TestTokensAreNewMemory(t *testing.T) {
	one, e := lex.Tokens(sample)
	want(t, "the first call", e, api.OK)
	two, e := lex.Tokens(sample)
	want(t, "the second call", e, api.OK)
	spreadTokens(one)
	are(t, "the second answer, behind a change of the first one", two, sampled())
	reads(t, sample, sampled()...)
}

// What is done to a token changes none beside it: no two lists of an answer share memory, nor room behind them.
func TestTokensOfOneAnswerAreApart(t *testing.T) {
	for i := range sampled() {
		l, e := lex.Tokens(sample)
		want(t, "a call", e, api.OK)
		spread(l[i].Value.Shape)
		spread(l[i].Value.Elems)
		l[i] = sampled()[i]
		are(t, "the other tokens", l, sampled())
	}
	for i := range sampled() {
		l, e := lex.Tokens(sample)
		want(t, "a call", e, api.OK)
		l[i].Value.Shape = append(l[i].Value.Shape, 7)
		l[i].Value.Elems = append(l[i].Value.Elems, 7, 7)
		l[i] = sampled()[i]
		are(t, "the other tokens, behind a list that grew", l, sampled())
	}
}

func TestSplitIsNewMemory(t *testing.T) {
	const program = "a⋄b\n{⋄}⋄'c'"
	asked := []string{"a", "b", "{⋄}", "'c'"}
	one, two := lex.Split(program), lex.Split(program)
	for i := range one {
		one[i] = "spread"
	}
	_ = append(one[:2], "spread")
	if !slices.Equal(two, asked) {
		t.Errorf("the second answer, behind a change of the first one: %q", two)
	}
	splits(t, program, asked...)
}

// Show and Same read whatever they are given, and write to none of it.
func TestTokensAreOnlyRead(t *testing.T) {
	for _, was := range [][]api.Token{sampled(), differ(), noValues(), {}} {
		one, two := copied(was), copied(was)
		shown := lex.Show(one)
		untouched(t, "Show", one, was)
		if !lex.Same(one, two) {
			t.Errorf("Same of equal lists: false")
		}
		untouched(t, "Same, its first argument", one, was)
		untouched(t, "Same, its second argument", two, was)
		spreadTokens(one)
		if again := lex.Show(two); again != shown {
			t.Errorf("Show, behind a change of what was shown: %q, want %q", again, shown)
		}
	}
}

// An answer that was told behind a change of what it was asked of tells what was asked of then.
func TestShowKeepsNothing(t *testing.T) {
	l := sampled()
	shown := lex.Show(l)
	spreadTokens(l)
	if asked := "a 1 2 'it''s' { ⍵ ⋄ 'b' '' } 3 ¯4 'cd' 5"; shown != asked {
		t.Errorf("shown: %q", shown)
	}
	shows(t, strings.TrimSuffix(strings.Repeat("? ", len(l)), " "), l...)
}

// The calls keep nothing from each other, so they may be made side by side.
func TestCallsSideBySide(t *testing.T) {
	var all sync.WaitGroup
	shared := sampled()
	for range 8 {
		all.Go(func() {
			for range 200 {
				l, e := lex.Tokens(sample)
				want(t, "a call", e, api.OK)
				are(t, "a call", l, shared)
				shows(t, "a 1 2 'it''s' { ⍵ ⋄ 'b' '' } 3 ¯4 'cd' 5", shared...)
				splits(t, "a⋄{⋄}", "a", "{⋄}")
				spreadTokens(l)
			}
		})
	}
	all.Wait()
}
