// Package num: numbers, and how they are written: see chapter 2.
package num

import (
	"math"
	"strings"
)

// Text: how a number is written.
func Text(x float64) string {
	switch {
	case x != x:
		return "NaN"
	case x < 0:
		return "-" + Text(-x)
	case x == 0:
		return "0"
	case math.IsInf(x, 1):
		return "Infinity"
	}
	a := shortest(x)
	k := len(a.d)
	switch {
	case k <= a.n && a.n <= 21:
		return a.d + strings.Repeat("0", a.n-k)
	case -6 < a.n && a.n <= 21:
		return pointed(a.d, k-a.n)
	}
	return a.powered()
}

// Int: without what is behind the point; NaN: 0.
func Int(x float64) float64 {
	if x != x {
		return 0
	}
	return math.Trunc(x)
}

// Uint32: the lowest 32 bits of a number.
func Uint32(x float64) uint32 {
	if !finite(x) {
		return 0
	}
	m, e := parts(math.Abs(x))
	if e >= 0 {
		m <<= e
	} else {
		m >>= -e
	}
	if x < 0 {
		m = -m
	}
	return uint32(m)
}

// Int32: likewise, with a sign.
func Int32(x float64) int32 { return int32(Uint32(x)) }

func finite(x float64) bool { return x-x == 0 }
