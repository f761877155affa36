package num

import (
	"math"
	"math/bits"
	"strconv"
	"strings"
)

// decimal is 0.d times 10 to the n: d is digits, of which the first is not 0; but 0 is "0", 1.
type decimal struct {
	d string
	n int
}

// parts: m and e so that the number, which is finite and not below 0, is m times 2 to the e; m is odd, or 0.
func parts(x float64) (uint64, int) {
	b := math.Float64bits(x)
	m, e := b&(1<<52-1), int(b>>52&0x7ff)
	if e == 0 {
		e = 1 // the least numbers have the exponent of those above them, and no hidden bit
	} else {
		m |= 1 << 52
	}
	if m == 0 {
		return 0, 0
	}
	zeros := bits.TrailingZeros64(m)
	return m >> zeros, e - 1075 + zeros
}

// exact: all digits of a number that is finite and not below 0.
func exact(x float64) decimal {
	m, e := parts(x)
	if e >= 0 {
		d := natOf(m).shifted(e).text(10)
		return decimal{d, len(d)}
	}
	// m / 2^k is m * 5^k / 10^k
	d := timesFives(natOf(m), -e).text(10)
	return decimal{d, len(d) + e}
}

// timesFives: times 5 to the k.
func timesFives(a nat, k int) nat {
	const most, power = 13, 1220703125 // the highest power of 5 that goes into a word
	for ; k >= most; k -= most {
		a = a.times(power, 0)
	}
	for range k {
		a = a.times(5, 0)
	}
	return a
}

// shortest: the fewest digits that tell a number that is finite and not below 0.
func shortest(x float64) decimal {
	mantissa, exponent, _ := strings.Cut(strconv.FormatFloat(x, 'e', -1, 64), "e")
	e, _ := strconv.Atoi(exponent)
	return decimal{strings.Replace(mantissa, ".", "", 1), e + 1}
}

// nearest: the digits of the whole number that is nearest to 0.d times 10 to the k, of two the greater: k digits, or one more, or none for 0.
func (a decimal) nearest(k int) string {
	if k < 0 {
		return ""
	}
	if k >= len(a.d) {
		return a.d + strings.Repeat("0", k-len(a.d))
	}
	if a.d[k] < '5' {
		return a.d[:k]
	}
	return plusOne(a.d[:k])
}

// rounded: to k digits, of which there is at least one.
func (a decimal) rounded(k int) decimal {
	d := a.nearest(k)
	return decimal{d[:k], a.n + len(d) - k}
}

func plusOne(d string) string {
	kept := strings.TrimRight(d, "9")
	zeros := strings.Repeat("0", len(d)-len(kept))
	if kept == "" {
		return "1" + zeros
	}
	last := len(kept) - 1
	return kept[:last] + string(kept[last]+1) + zeros
}

// pointed: digits with a point ahead of the last n, and at least one ahead of that.
func pointed(d string, n int) string {
	if len(d) <= n {
		d = strings.Repeat("0", n+1-len(d)) + d
	}
	if n == 0 {
		return d
	}
	at := len(d) - n
	return d[:at] + "." + d[at:]
}

// powered: one digit, a point, the others, and the exponent.
func (a decimal) powered() string {
	e, sign := a.n-1, "+"
	if e < 0 {
		e, sign = -e, "-"
	}
	return pointed(a.d, len(a.d)-1) + "e" + sign + strconv.Itoa(e)
}
