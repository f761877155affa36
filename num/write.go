package num

import (
	"math"

	"ecmacore/api"
)

// Fixed: with so many digits behind the point.
func Fixed(x float64, n int) (string, error) {
	if n < 0 || n > 20 {
		return "", api.ErrRange
	}
	if !(math.Abs(x) < 1e21) {
		return Text(x), nil
	}
	a := exact(math.Abs(x))
	return minus(x) + pointed(a.nearest(a.n+n), n), nil
}

// Exponential: with so many digits behind the point, and an exponent; below 0: as many as tell it.
func Exponential(x float64, n int) (string, error) {
	switch {
	case !finite(x):
		return Text(x), nil
	case n > 20:
		return "", api.ErrRange
	case n < 0:
		return minus(x) + shortest(math.Abs(x)).powered(), nil
	}
	return minus(x) + exact(math.Abs(x)).rounded(n+1).powered(), nil
}

// Precision: with so many digits.
func Precision(x float64, n int) (string, error) {
	switch {
	case !finite(x):
		return Text(x), nil
	case n < 1 || n > 21:
		return "", api.ErrRange
	}
	a := exact(math.Abs(x)).rounded(n)
	if e := a.n - 1; e < -6 || e >= n {
		return minus(x) + a.powered(), nil
	}
	return minus(x) + pointed(a.d, n-a.n), nil
}

// Radix: written to a base.
func Radix(x float64, base int) (string, error) {
	if base < 2 || base > 36 {
		return "", api.ErrRange
	}
	if !finite(x) || x == 0 || base == 10 {
		return Text(x), nil
	}
	m, e := parts(math.Abs(x))
	if e >= 0 {
		return minus(x) + natOf(m).shifted(e).text(uint32(base)), nil
	}
	whole := natOf(m >> -e).text(uint32(base))
	return minus(x) + whole + "." + fraction(m, -e, uint32(base)), nil
}

// fraction: the digits behind the point of m / 2^k; m is odd, so there is at least one.
func fraction(m uint64, k int, base uint32) string {
	const most = 52
	words := (k + 31) / 32
	// So far to the left that the point lies at the end of a word: what goes beyond the words is whole.
	left := natOf(m).shifted(32*words - k)
	left = append(left, make(nat, words)...)[:words]
	var out []byte
	for range most {
		if left.isZero() {
			break
		}
		out = append(out, digits[left.scale(base, 0)])
	}
	return string(out)
}

func minus(x float64) string {
	if x < 0 {
		return "-"
	}
	return ""
}
