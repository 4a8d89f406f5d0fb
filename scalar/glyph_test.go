package scalar_test

import (
	"slices"
	"testing"

	"quadrat/api"
	"quadrat/scalar"
)

// The glyphs, each by the bytes that the chapter has, at the number of its function.
func glyphsOf() []string {
	return []string{1: "\x2B", "\x2D", "\xC3\x97", "\xC3\xB7", "\x7C", "\xE2\x8C\x8A", "\xE2\x8C\x88", "\x2A", "\x3D", "\xE2\x89\xA0", "\x3C", "\xE2\x89\xA4", "\xE2\x89\xA5", "\x3E", "\xE2\x88\xA7", "\xE2\x88\xA8", "\x7E"}
}

func TestGlyphs(t *testing.T) {
	asked := glyphsOf()
	if len(asked) != 18 {
		t.Fatalf("the test itself has %d glyphs", len(asked)-1)
	}
	for f := 1; f <= 17; f++ {
		if got := scalar.Glyph(f); got != asked[f] {
			t.Errorf("Glyph(%d) is %q, want %q", f, got, asked[f])
		}
		if got := scalar.Named(asked[f]); got != f {
			t.Errorf("Named(%q) is %d, want %d", asked[f], got, f)
		}
		if got := scalar.Named(scalar.Glyph(f)); got != f {
			t.Errorf("Named(Glyph(%d)) is %d", f, got)
		}
	}
	for f, glyph := range map[int]string{api.FnAdd: "+", api.FnSub: "-", api.FnMul: "×", api.FnDiv: "÷", api.FnRem: "|", api.FnMin: "⌊", api.FnMax: "⌈", api.FnPow: "*", api.FnEq: "=", api.FnNe: "≠", api.FnLt: "<", api.FnLe: "≤", api.FnGe: "≥", api.FnGt: ">", api.FnAnd: "∧", api.FnOr: "∨", api.FnNot: "~"} {
		if scalar.Glyph(f) != glyph || scalar.Named(glyph) != f {
			t.Errorf("%d and %q are %q and %d", f, glyph, scalar.Glyph(f), scalar.Named(glyph))
		}
	}
}

func TestGlyphsOfNoFunctions(t *testing.T) {
	for _, f := range noFunctions() {
		if got := scalar.Glyph(f); got != "" {
			t.Errorf("Glyph(%d) is %q", f, got)
		}
	}
}

func TestTextsThatAreNoGlyphs(t *testing.T) {
	l := []string{"", " ", "a", "1", "0", "⍴", ",", "⌽", "⍉", "⍳", "≢", "⍋", "⍒", "↑", "↓", "∊", "/", "\\", "∘.+", "+.×", "∇", "¯", "−", "–", "∗", "⋆", "x", "∣", "¦", "^", "v", "&", "<=", ">=", "!=", "==", "∼", "˜", "\x00", "\xC3", "\x97", "\xE2", "\xE2\x8C", "\xE2\x89", "\xFF", "\uFFFD", "\U0010FFFF"}
	for f := 1; f <= 17; f++ {
		glyph := glyphsOf()[f]
		l = append(l, glyph+" ", " "+glyph, glyph+"\n", glyph+"\x00", "\x00"+glyph, glyph+"/", glyph[:len(glyph)-1], glyph[1:])
		for _, other := range glyphsOf()[1:] {
			l = append(l, glyph+other)
		}
	}
	for _, text := range l {
		if got := scalar.Named(text); got != 0 {
			t.Errorf("Named(%q) is %d", text, got)
		}
	}
}

func TestUnaryAndBinary(t *testing.T) {
	for _, f := range anyFunctions() {
		if got := scalar.Unary(f); got != slices.Contains(unary, f) {
			t.Errorf("Unary(%d) is %v", f, got)
		}
		if got := scalar.Binary(f); got != slices.Contains(binary, f) {
			t.Errorf("Binary(%d) is %v", f, got)
		}
	}
	for f := -300; f <= 300; f++ {
		if scalar.Unary(f) != slices.Contains(unary, f) || scalar.Binary(f) != slices.Contains(binary, f) || (scalar.Glyph(f) != "") != (f >= 1 && f <= 17) {
			t.Errorf("%d: Unary is %v, Binary %v, Glyph %q", f, scalar.Unary(f), scalar.Binary(f), scalar.Glyph(f))
		}
	}
}

func TestIdentities(t *testing.T) {
	asked := map[int]int64{
		api.FnAdd: 0, api.FnSub: 0, api.FnRem: 0, api.FnNe: 0, api.FnLt: 0, api.FnGt: 0, api.FnOr: 0,
		api.FnMul: 1, api.FnDiv: 1, api.FnPow: 1, api.FnEq: 1, api.FnLe: 1, api.FnGe: 1, api.FnAnd: 1,
		api.FnMin: greatest, api.FnMax: least,
	}
	for _, f := range binary {
		n, has := asked[f]
		if got, e := scalar.Identity(f); !has || e != api.OK || got != n {
			t.Errorf("Identity(%d): error %d and %d, want %d", f, e, got, n)
		}
	}
	for _, f := range without(binary) {
		if got, e := scalar.Identity(f); e != api.ErrArg || got != 0 {
			t.Errorf("Identity(%d): error %d and %d", f, e, got)
		}
	}
}
