// Package text is layer 1: a text's runes, and where they stand.
package text

import (
	"strings"
	"unicode/utf8"

	"warder/api"
)

// Bad stands for a byte that begins no rune.
const Bad = -1

// Rune is a rune, its bytes, and its place.
type Rune struct {
	R        rune
	From, To int
	At       api.Pos
}

// Runes are a text's runes.
func Runes(s string) ([]Rune, api.Errno) {
	var l []Rune
	at := first()
	for i, r := range s {
		if len(l) == api.MaxRunes {
			return nil, api.ErrLong
		}
		x := told(s, i, r)
		x.At = at
		l = append(l, x)
		at = behind(at, r)
	}
	return l, api.OK
}

// told is the rune r that begins at byte i, but for its place.
func told(s string, i int, r rune) Rune {
	// A range tells a byte that begins no rune as RuneError, and also a RuneError that really stands there.
	if r == utf8.RuneError && !strings.HasPrefix(s[i:], "\uFFFD") {
		return Rune{R: Bad, From: i, To: i + 1}
	}
	return Rune{R: r, From: i, To: i + utf8.RuneLen(r)}
}

// first is the place of a text's first rune.
func first() api.Pos { return api.Pos{Line: 1, Col: 1} }

// behind is the place behind a rune that stands at a place.
func behind(at api.Pos, r rune) api.Pos {
	if r == '\n' {
		return api.Pos{Line: at.Line + 1, Col: 1}
	}
	return api.Pos{Line: at.Line, Col: at.Col + 1}
}

// At is the place of the first rune that does not begin ahead of a byte.
func At(s string, off int) api.Pos {
	at := first()
	for i, r := range s {
		if i >= off {
			return at
		}
		at = behind(at, r)
	}
	return at
}

// Line is a line of a text.
func Line(s string, n int) string {
	for ; n > 1; n-- {
		i := strings.IndexByte(s, '\n')
		if i < 0 {
			return ""
		}
		s = s[i+1:]
	}
	if n < 1 {
		return ""
	}
	line, _, _ := strings.Cut(s, "\n")
	return line
}

// Small tells whether a rune is a small letter.
func Small(r rune) bool { return 'a' <= r && r <= 'z' }

// Great tells whether a rune is a great letter.
func Great(r rune) bool { return 'A' <= r && r <= 'Z' }

// Digit tells whether a rune is a digit.
func Digit(r rune) bool { return '0' <= r && r <= '9' }

// Blank tells whether a rune parts words.
func Blank(r rune) bool { return r == ' ' || r == '\t' || r == '\n' || r == '\r' }
