package regex

import (
	"cmp"
	"slices"
	"unicode"
)

// span: all units from the first to the last.
type span struct{ from, to uint16 }

// set: the units of a class: spans in order, with units between them; or all but these.
type set struct {
	spans []span
	not   bool
}

// manyRow: a span of those that an escape of many units stands for.
type manyRow struct{ letter, from, to uint16 }

// The rows of a letter stand in the order of their units.
var manyRows = [...]manyRow{
	{'d', '0', '9'},
	{'w', '0', '9'}, {'w', 'A', 'Z'}, {'w', '_', '_'}, {'w', 'a', 'z'},
	{'s', 9, 13}, {'s', ' ', ' '}, {'s', 0xa0, 0xa0}, {'s', 0x1680, 0x1680}, {'s', 0x2000, 0x200a},
	{'s', 0x2028, 0x2029}, {'s', 0x202f, 0x202f}, {'s', 0x205f, 0x205f}, {'s', 0x3000, 0x3000}, {'s', 0xfeff, 0xfeff},
}

// spansOf: of the letter of an escape of many units; nil, if it is no such letter.
func spansOf(letter uint16) []span {
	var l []span
	for _, row := range manyRows {
		if row.letter == letter|0x20 {
			l = append(l, span{row.from, row.to})
		}
	}
	if l != nil && letter < 'a' {
		return others(l)
	}
	return l
}

// others: all units that are not in the spans, which stand in order.
func others(spans []span) []span {
	var l []span
	next := 0
	for _, s := range spans {
		if next < int(s.from) {
			l = append(l, span{uint16(next), s.from - 1})
		}
		next = int(s.to) + 1
	}
	if next <= 0xffff {
		l = append(l, span{uint16(next), 0xffff})
	}
	return l
}

// joined: the same units as spans in order. The spans may be written over.
func joined(spans []span) []span {
	slices.SortFunc(spans, func(a, b span) int { return cmp.Compare(a.from, b.from) })
	l := spans[:0]
	for _, s := range spans {
		if n := len(l); n > 0 && int(s.from) <= int(l[n-1].to)+1 {
			l[n-1].to = max(l[n-1].to, s.to)
		} else {
			l = append(l, s)
		}
	}
	return l
}

func (s *set) has(u uint16, alike bool) bool {
	in := s.lists(u) || alike && s.listsAlike(u)
	return in != s.not
}

// lists: whether the unit lies in a span.
func (s *set) lists(u uint16) bool {
	i, there := slices.BinarySearchFunc(s.spans, u, func(s span, u uint16) int { return cmp.Compare(s.from, u) })
	return there || i > 0 && u <= s.spans[i-1].to
}

// listsAlike: whether a unit that counts as the same lies in a span. Units that have one upper one are among those that Unicode folds together.
func (s *set) listsAlike(u uint16) bool {
	top := upper(u)
	for r := unicode.SimpleFold(rune(u)); r != rune(u); r = unicode.SimpleFold(r) {
		if r <= 0xffff && upper(uint16(r)) == top && s.lists(uint16(r)) {
			return true
		}
	}
	return false
}

// upper: what a unit counts as with the flag i.
func upper(u uint16) uint16 {
	r := unicode.ToUpper(rune(u))
	if r > 0xffff || r < 0x80 && u >= 0x80 {
		return u
	}
	return uint16(r)
}

func isWord(u uint16) bool { return isDigit(u) || isLetter(u) || u == '_' }

func isDigit(u uint16) bool { return u >= '0' && u <= '9' }

func isLetter(u uint16) bool { return u|0x20 >= 'a' && u|0x20 <= 'z' }
