// Package units: strings as units of sixteen bits: see chapter 1.
package units

import (
	"iter"
	"unicode"
	"unicode/utf8"
)

// The bounds between units that are code points of their own and halves of pairs.
const (
	firstHalf  = 0xd800 // of the first halves
	secondHalf = 0xdc00 // of the second halves
	endHalves  = 0xe000
	firstPair  = 0x10000 // the least code point that takes two units
)

// Units: the units of a text.
func Units(s string) []uint16 {
	if s == "" {
		return nil
	}
	l := make([]uint16, 0, len(s))
	for at := 0; at < len(s); {
		if c := s[at]; c < utf8.RuneSelf { // most texts have little else
			l = append(l, uint16(c))
			at++
			continue
		}
		r, n := pointAt(s[at:])
		l = appendUnits(l, r)
		at += n
	}
	return l
}

// Text: the text of units.
func Text(l []uint16) string {
	b := make([]byte, 0, len(l))
	for r := range points(l) {
		b = appendText(b, r)
	}
	return string(b)
}

// Upper: letter by letter.
func Upper(s string) string { return mapped(s, unicode.ToUpper) }

// Lower: letter by letter.
func Lower(s string) string { return mapped(s, unicode.ToLower) }

// Trim: without white space at its ends.
func Trim(s string) string {
	l := Units(s)
	for len(l) > 0 && White(l[0]) {
		l = l[1:]
	}
	for len(l) > 0 && White(l[len(l)-1]) {
		l = l[:len(l)-1]
	}
	return Text(l)
}

func mapped(s string, to func(rune) rune) string {
	b := make([]byte, 0, len(s))
	for r := range points(Units(s)) {
		b = appendText(b, to(r))
	}
	return string(b)
}

// pointAt: the code point, or the half that stands alone, at the front of a text that is not empty, and how many bytes it takes.
func pointAt(s string) (rune, int) {
	r, n := utf8.DecodeRuneInString(s)
	// Go's UTF-8 refuses halves, so they are looked for where it refused.
	if r == utf8.RuneError && n == 1 && len(s) >= 3 && s[0] == 0xed && s[1]&0xe0 == 0xa0 && s[2]&0xc0 == 0x80 {
		return firstHalf | rune(s[1]&0x1f)<<6 | rune(s[2]&0x3f), 3
	}
	return r, n
}

// points goes through the code points of units; a half that stands alone is one of its own.
func points(l []uint16) iter.Seq[rune] {
	return func(yield func(rune) bool) {
		for i := 0; i < len(l); i++ {
			r := rune(l[i])
			if i+1 < len(l) && isFirst(r) && isSecond(rune(l[i+1])) {
				i++
				r = paired(r, rune(l[i]))
			}
			if !yield(r) {
				return
			}
		}
	}
}

// paired: the code point of two halves.
func paired(first, second rune) rune { return firstPair + (first-firstHalf)<<10 + second - secondHalf }

func isFirst(r rune) bool { return r >= firstHalf && r < secondHalf }

func isSecond(r rune) bool { return r >= secondHalf && r < endHalves }

func appendUnits(l []uint16, r rune) []uint16 {
	if r < firstPair {
		return append(l, uint16(r))
	}
	r -= firstPair
	return append(l, uint16(firstHalf+r>>10), uint16(secondHalf+r&0x3ff))
}

// appendText writes halves that stand alone itself: for Go's UTF-8 they are no code points.
func appendText(b []byte, r rune) []byte {
	if isFirst(r) || isSecond(r) {
		return append(b, byte(0xe0|r>>12), byte(0x80|r>>6&0x3f), byte(0x80|r&0x3f))
	}
	return utf8.AppendRune(b, r)
}

// White: of a unit: whether it is white space.
func White(u uint16) bool {
	switch u {
	case 9, 11, 12, 0xfeff:
		return true
	}
	return EndsLine(u) || unicode.Is(unicode.Zs, rune(u))
}

// EndsLine: of a unit: whether it ends a line.
func EndsLine(u uint16) bool {
	switch u {
	case 10, 13, 0x2028, 0x2029:
		return true
	}
	return false
}
