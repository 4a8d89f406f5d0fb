package scalar

import "quadrat/api"

// glyphs has each function's at its number. No function has the number 0, so the text there is that of none.
var glyphs = [...]string{
	api.FnAdd: "+",
	api.FnSub: "-",
	api.FnMul: "×",
	api.FnDiv: "÷",
	api.FnRem: "|",
	api.FnMin: "⌊",
	api.FnMax: "⌈",
	api.FnPow: "*",
	api.FnEq:  "=",
	api.FnNe:  "≠",
	api.FnLt:  "<",
	api.FnLe:  "≤",
	api.FnGe:  "≥",
	api.FnGt:  ">",
	api.FnAnd: "∧",
	api.FnOr:  "∨",
	api.FnNot: "~",
}

// Glyph is a function's.
func Glyph(f int) string {
	if f < 0 || f >= len(glyphs) {
		return ""
	}
	return glyphs[f]
}

// Named is the function of a glyph. The text of none stands first, so that it is told by 0 as well.
func Named(glyph string) int {
	for f := range glyphs {
		if glyphs[f] == glyph {
			return f
		}
	}
	return 0
}
