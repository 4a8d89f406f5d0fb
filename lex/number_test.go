package lex_test

import (
	"slices"
	"strconv"
	"strings"
	"testing"

	"quadrat/api"
	"quadrat/lex"
)

func TestOneNumber(t *testing.T) {
	reads(t, "0", num(0))
	reads(t, "7", num(7))
	reads(t, "42", num(42))
	reads(t, "1234567890", num(1234567890))
	reads(t, "¯1", num(-1))
	reads(t, "¯907", num(-907))
	reads(t, "¯0", num(0))
	for n := range int64(1200) {
		reads(t, strconv.FormatInt(n, 10), num(n))
		reads(t, "¯"+strconv.FormatInt(n, 10), num(-n))
	}
}

func TestSeveralNumbers(t *testing.T) {
	reads(t, "1 2", nums(1, 2))
	reads(t, "1 2 3 4", nums(1, 2, 3, 4))
	reads(t, "0 0", nums(0, 0))
	reads(t, "1  2     3", nums(1, 2, 3))
	reads(t, "1"+strings.Repeat(" ", 10_000)+"2", nums(1, 2))
	reads(t, "10 20 30", nums(10, 20, 30))
	reads(t, "1 ¯2", nums(1, -2))
	reads(t, "1¯2", nums(1, -2))
	reads(t, "1¯2¯3", nums(1, -2, -3))
	reads(t, "¯1¯2 3¯4", nums(-1, -2, 3, -4))
	reads(t, "1   ¯2", nums(1, -2))
	reads(t, "¯1 2", nums(-1, 2))
	reads(t, "12¯34 56", nums(12, -34, 56))
}

// A number needs digits right behind its sign, and has one sign alone.
func TestSignsThatAreNoNumbers(t *testing.T) {
	for _, s := range []string{"¯", "¯ 1", "¯ ", "¯¯1", "¯¯", "1¯", "1 ¯", "1¯ 2", "1 ¯ 2", "1¯¯2", "1 2 ¯¯3", "¯a", "¯'a'", "¯-1", "¯+", "¯\n1", "¯(1)", "1 2¯a", "1 ¯_", "¯", "−1", "¯１"} {
		refuses(t, s)
	}
}

// A minus is no sign of a number, and neither is a plus or a point part of one.
func TestMinusIsAGlyph(t *testing.T) {
	reads(t, "-1", glyph("-"), num(1))
	reads(t, "- 1", glyph("-"), num(1))
	reads(t, "1 -2", num(1), glyph("-"), num(2))
	reads(t, "1-2", num(1), glyph("-"), num(2))
	reads(t, "1 2-3 4", nums(1, 2), glyph("-"), nums(3, 4))
	reads(t, "-¯1", glyph("-"), num(-1))
	reads(t, "+1", glyph("+"), num(1))
	reads(t, "1.5", num(1), glyph("."), num(5))
	reads(t, "1,2", num(1), glyph(","), num(2))
}

func TestLeadingZeros(t *testing.T) {
	reads(t, "00", num(0))
	reads(t, "007", num(7))
	reads(t, "¯007", num(-7))
	reads(t, "010 08 09", nums(10, 8, 9))
	reads(t, strings.Repeat("0", 100_000)+"12", num(12))
	reads(t, "¯"+strings.Repeat("0", 30)+"9223372036854775808", num(least))
	reads(t, strings.Repeat("0", 30)+"9223372036854775807", num(greatest))
	refuses(t, strings.Repeat("0", 30)+"9223372036854775808")
	refuses(t, "0_1")
}

func TestNumbersOf64Bits(t *testing.T) {
	reads(t, "9223372036854775807", num(greatest))
	reads(t, "9223372036854775806", num(greatest-1))
	reads(t, "¯9223372036854775808", num(least))
	reads(t, "¯9223372036854775807", num(least+1))
	reads(t, "9223372036854775807¯9223372036854775808 0", nums(greatest, least, 0))
	reads(t, "2147483648 4294967296 ¯2147483649", nums(1<<31, 1<<32, -1<<31-1))
	for _, s := range []string{
		"9223372036854775808", "¯9223372036854775809", "9223372036854775809", "18446744073709551615", "18446744073709551616", "18446744073709551617", "¯18446744073709551616", "10000000000000000000", "99999999999999999999",
		"1 9223372036854775808", "9223372036854775808 1", "1 2¯9223372036854775809", "1" + strings.Repeat("0", 20), strings.Repeat("9", 100), "¯" + strings.Repeat("1", 100_000), strings.Repeat("4", 1<<20),
	} {
		refuses(t, s)
	}
}

// A number ends where its digits do, whatever follows.
func TestWhatFollowsANumber(t *testing.T) {
	reads(t, "1a", num(1), name("a"))
	reads(t, "1 a", num(1), name("a"))
	reads(t, "12abc34", num(12), name("abc34"))
	reads(t, "1e5", num(1), name("e5"))
	reads(t, "0x1F", num(0), name("x1F"))
	reads(t, "1 2a", nums(1, 2), name("a"))
	reads(t, "1 2 a 3", nums(1, 2), name("a"), num(3))
	reads(t, "¯1a_", num(-1), name("a_"))
	reads(t, "1'a'", num(1), char('a'))
	reads(t, "1 2'ab'", nums(1, 2), text("ab"))
	reads(t, "1'' 2", num(1), chars(), num(2))
	reads(t, "1⍴2", num(1), glyph("⍴"), num(2))
	reads(t, "1 2 (3)", nums(1, 2), glyph("("), num(3), glyph(")"))
	reads(t, "x1 ← 1 ¯2+3", name("x1"), glyph("←"), nums(1, -2), glyph("+"), num(3))
	for _, s := range []string{"1_", "1_000", "1 _", "1é", "1@", "1\t2", "1\t", "1\r", "1½", "1٣", "٣", "²"} {
		refuses(t, s)
	}
	refuses(t, "1abcdefghijklm")
}

func TestWhatStandsAheadOfANumber(t *testing.T) {
	reads(t, "a1", name("a1"))
	reads(t, "a 1", name("a"), num(1))
	reads(t, "a¯1", name("a"), num(-1))
	reads(t, "a1 1", name("a1"), num(1))
	reads(t, "'a'1", char('a'), num(1))
	reads(t, "'ab'1 2", text("ab"), nums(1, 2))
	reads(t, "+1 2", glyph("+"), nums(1, 2))
	reads(t, "⍵1", glyph("⍵"), num(1))
}

// A newline is a glyph, and so keeps numbers apart.
func TestNumbersOnBothSidesOfANewline(t *testing.T) {
	reads(t, "1\n2", num(1), glyph("⋄"), num(2))
	reads(t, "1 2 \n 3 4", nums(1, 2), glyph("⋄"), nums(3, 4))
	reads(t, "1\n¯2", num(1), glyph("⋄"), num(-2))
	reads(t, "1⋄2 3", num(1), glyph("⋄"), nums(2, 3))
	reads(t, "1\n\n2", num(1), glyph("⋄"), glyph("⋄"), num(2))
}

// first are the numbers from 1 on, so many of them, and their text.
func first(n int, between string) ([]int64, string) {
	var l []int64
	var texts []string
	for i := range n {
		l = append(l, int64(i+1))
		texts = append(texts, strconv.Itoa(i+1))
	}
	return l, strings.Join(texts, between)
}

func TestAsManyNumbersAsMayBe(t *testing.T) {
	for _, n := range []int{2, 100, 4095, 4096} {
		l, s := first(n, " ")
		reads(t, s, nums(l...))
		reads(t, "a"+" "+s+"+"+s, name("a"), nums(l...), glyph("+"), nums(l...))
	}
	for _, n := range []int{4097, 4098, 8192, 50_000} {
		_, s := first(n, "  ")
		fails(t, s, api.ErrLimit)
		fails(t, "1+"+s+"-2", api.ErrLimit)
	}
	zeros := slices.Repeat([]int64{-3}, 4096)
	reads(t, strings.Repeat("¯3", 4096), nums(zeros...))
	fails(t, strings.Repeat("¯3", 4097), api.ErrLimit)
}

// Signs without spaces must not make each number as long as all that follow.
func TestVeryManyNumbers(t *testing.T) {
	for _, part := range []string{"¯1", "1 ", "00¯0"} {
		_, e := lex.Tokens(strings.Repeat(part, 200_000))
		want(t, part, e, api.ErrLimit)
	}
}
