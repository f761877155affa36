package units

import "slices"

// What stands here works on texts as Text gives them, without making all of their units.

// Count: how many units a text has.
func Count(s string) int {
	n := 0
	for i := range len(s) {
		if s[i]&0xc0 != 0x80 { // a code point begins
			n++
		}
		if s[i] >= 0xf0 { // one of four bytes, so of two units
			n++
		}
	}
	return n
}

// At: the unit of a text at a place; 0, if there is none.
func At(s string, i int) uint16 {
	var room [2]uint16
	for at := 0; at < len(s) && i >= 0; {
		r, size := pointAt(s[at:])
		l := appendUnits(room[:0], r)
		if i < len(l) {
			return l[i]
		}
		i -= len(l)
		at += size
	}
	return 0
}

// Join: two texts, one behind the other.
func Join(a, b string) string {
	if halvesMeet(a, b) {
		return string(Append([]byte(a), b))
	}
	return a + b
}

// Append: likewise, of a text in bytes, which may be written on.
func Append(b []byte, s string) []byte {
	if !halvesMeet(b, s) {
		return append(b, s...)
	}
	first, _ := pointAt(string(b[len(b)-3:]))
	second, size := pointAt(s)
	b = appendText(b[:len(b)-3], paired(first, second))
	return append(b, s[size:]...)
}

// halvesMeet: whether a first half that stood alone gets its second one.
func halvesMeet[T string | []byte](a T, b string) bool {
	n := len(a) - 3
	return n >= 0 && a[n] == 0xed && a[n+1]&0xf0 == 0xa0 && len(b) >= 3 && b[0] == 0xed && b[1]&0xf0 == 0xb0
}

// Compare: unit by unit; -1, 0, 1.
func Compare(a, b string) int {
	i := 0
	for i < len(a) && i < len(b) && a[i] == b[i] {
		i++
	}
	for i > 0 && (inside(a, i) || inside(b, i)) {
		i--
	}
	return slices.Compare(front(a[i:]), front(b[i:]))
}

// inside: whether the byte belongs to a code point that began ahead of it.
func inside(s string, i int) bool { return i < len(s) && s[i]&0xc0 == 0x80 }

// front: the units of what suffices to tell two texts apart whose first code points differ: a half that stands alone, and what is behind it.
func front(s string) []uint16 {
	const halfAndPair = 7
	return Units(s[:min(len(s), halfAndPair)])
}
