package array

import (
	"strconv"
	"strings"

	"quadrat/api"
)

// Text is an array's text.
func Text(a api.Array) (string, api.Errno) {
	if e := Check(a); e != api.OK {
		return "", e
	}
	elems := elemsText(a)
	if tellsShape(a) {
		return elems, api.OK
	}
	return numbersText(a.Shape) + "⍴" + elems, api.OK
}

// tellsShape says whether the text of an array's elements is its whole text. One number or character is read as a scalar, and the 0 that stands for no numbers as well.
func tellsShape(a api.Array) bool {
	switch len(a.Shape) {
	case 0:
		return true
	case 1:
		return len(a.Elems) > 1 || len(a.Elems) == 0 && a.Kind == api.KindChar
	}
	return false
}

// elemsText is the text of a valid array's elements.
func elemsText(a api.Array) string {
	switch {
	case a.Kind == api.KindChar:
		return charsText(a.Elems)
	case len(a.Elems) == 0:
		return "0"
	}
	return numbersText(a.Elems)
}

// numbersText is the texts of numbers, separated by spaces.
func numbersText[N int | int64](l []N) string {
	var texts []string
	for _, n := range l {
		texts = append(texts, numberText(int64(n)))
	}
	return strings.Join(texts, " ")
}

// numberText is a number's text. The sign is exchanged in the text, as the least number has no opposite that could be told instead.
func numberText(n int64) string {
	text := strconv.FormatInt(n, 10)
	if digits, negative := strings.CutPrefix(text, "-"); negative {
		return "¯" + digits
	}
	return text
}

// charsText is the characters' texts within quotes.
func charsText(l []int64) string {
	var b strings.Builder
	b.WriteByte('\'')
	for _, c := range l {
		b.WriteRune(rune(c))
		if c == '\'' {
			b.WriteRune('\'')
		}
	}
	b.WriteByte('\'')
	return b.String()
}
