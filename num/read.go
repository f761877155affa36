package num

import (
	"math"
	"strconv"
	"strings"

	"ecmacore/units"
)

// Read: the number that a text is taken for.
func Read(s string) float64 {
	s = units.Trim(s)
	if s == "" {
		return 0
	}
	if rest, ok := cutHex(s); ok {
		return whole(rest, 16)
	}
	x, n := front(s)
	if n < len(s) {
		return math.NaN()
	}
	return x
}

// ReadFloat: the number at the front of a text.
func ReadFloat(s string) float64 {
	x, _ := front(units.Trim(s))
	return x
}

// ReadInt: the whole number at the front of a text, to a base.
func ReadInt(s string, base float64) float64 {
	s, sign := cutSign(units.Trim(s))
	b := int(Int32(base))
	if b == 0 || b == 16 {
		if rest, ok := cutHex(s); ok {
			s, b = rest, 16
		}
	}
	if b == 0 {
		b = 10
	}
	if b < 2 || b > 36 {
		return math.NaN()
	}
	return sign * whole(s[:run(s, b)], b)
}

// whole: all of a text as a whole number; NaN, if it isn't digits to the base.
func whole(s string, base int) float64 {
	if s == "" || run(s, base) < len(s) {
		return math.NaN()
	}
	s = strings.TrimLeft(s, "0")
	if len(s) > 1024 { // to the least base, 2, it would be too large
		return math.Inf(1)
	}
	var a nat
	for i := range len(s) {
		a = a.times(uint32(base), uint32(digit(s[i])))
	}
	return a.float()
}

// front: the number at the front of a text, and how many bytes it takes; NaN, if there is none.
func front(s string) (float64, int) {
	const infinity = "Infinity"
	rest, sign := cutSign(s)
	if strings.HasPrefix(rest, infinity) {
		return math.Inf(int(sign)), len(s) - len(rest) + len(infinity)
	}
	x, n := frontDecimal(rest)
	return sign * x, len(s) - len(rest) + n
}

func frontDecimal(s string) (float64, int) {
	at := 0
	digitsHere := func() string {
		from := at
		at += run(s[at:], 10)
		return s[from:at]
	}
	all := digitsHere()
	point := len(all)
	if at < len(s) && s[at] == '.' {
		at++
		all += digitsHere()
	}
	if all == "" {
		return math.NaN(), 0
	}
	e, n := frontExponent(s[at:])
	return fromDecimal(all, int64(point)+e), at + n
}

// frontExponent: the exponent at the front of a text, and how many bytes it takes: none, if it has no digits.
func frontExponent(s string) (int64, int) {
	const far = 1 << 50 // further than the digits of any text reach
	if s == "" || s[0] != 'e' && s[0] != 'E' {
		return 0, 0
	}
	rest, sign := cutSign(s[1:])
	n := run(rest, 10)
	if n == 0 {
		return 0, 0
	}
	e := int64(0)
	for i := range n {
		if e < far {
			e = 10*e + int64(digit(rest[i]))
		}
	}
	return int64(sign) * e, len(s) - len(rest) + n
}

// fromDecimal: the float64 that is nearest to the digits, with a point ahead of them, times 10 to the n.
func fromDecimal(all string, n int64) float64 {
	d := strings.TrimLeft(all, "0")
	n -= int64(len(all) - len(d))
	switch {
	case d == "" || n < -400:
		return 0
	case n > 400:
		return math.Inf(1)
	}
	// strconv reads no exponent of many digits, however many zeros make up for it: so the point stands at the first digit.
	x, _ := strconv.ParseFloat("0."+d+"e"+strconv.FormatInt(n, 10), 64)
	return x
}

// cutSign: without a sign at the front; 1 or -1.
func cutSign(s string) (string, float64) {
	switch {
	case strings.HasPrefix(s, "-"):
		return s[1:], -1
	case strings.HasPrefix(s, "+"):
		return s[1:], 1
	}
	return s, 1
}

// cutHex: without 0x or 0X at the front; was it there?
func cutHex(s string) (string, bool) {
	if len(s) >= 2 && s[0] == '0' && (s[1] == 'x' || s[1] == 'X') {
		return s[2:], true
	}
	return s, false
}

// run: how many digits to the base stand at the front.
func run(s string, base int) int {
	for i := range len(s) {
		if digit(s[i]) >= base {
			return i
		}
	}
	return len(s)
}

// digit: what a digit or letter counts; 36, which is none to any base, if it is neither.
func digit(c byte) int {
	switch {
	case '0' <= c && c <= '9':
		return int(c - '0')
	case 'a' <= c && c <= 'z':
		return int(c-'a') + 10
	case 'A' <= c && c <= 'Z':
		return int(c-'A') + 10
	}
	return 36
}
