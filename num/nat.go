package num

import (
	"math"
	"math/bits"
	"slices"
)

// digits: to any base up to 36.
const digits = "0123456789abcdefghijklmnopqrstuvwxyz"

// nat is a whole number, its lowest 32 bits first; the highest are not 0.
type nat []uint32

func natOf(m uint64) nat {
	return nat{uint32(m), uint32(m >> 32)}.trimmed()
}

func (a nat) trimmed() nat {
	for len(a) > 0 && a[len(a)-1] == 0 {
		a = a[:len(a)-1]
	}
	return a
}

// scale: times f, plus more, in place and in as many words as there are; what goes beyond them.
func (a nat) scale(f, more uint32) uint32 {
	carry := uint64(more)
	for i, w := range a {
		carry += uint64(w) * uint64(f)
		a[i] = uint32(carry)
		carry >>= 32
	}
	return uint32(carry)
}

// times: times f, plus more, in the memory of a.
func (a nat) times(f, more uint32) nat {
	if over := a.scale(f, more); over != 0 {
		return append(a, over)
	}
	return a
}

// part: divided by d, in place; what is left over.
func (a nat) part(d uint32) (nat, uint32) {
	left := uint64(0)
	for i := range slices.Backward(a) {
		left = left<<32 | uint64(a[i])
		a[i] = uint32(left / uint64(d))
		left %= uint64(d)
	}
	return a.trimmed(), uint32(left)
}

// shifted: times 2 to the n.
func (a nat) shifted(n int) nat {
	b := make(nat, n/32, n/32+len(a)+1)
	b = append(b, a...)
	return b.times(1<<(n%32), 0)
}

func (a nat) isZero() bool {
	return !slices.ContainsFunc(a, func(w uint32) bool { return w != 0 })
}

// float: the nearest float64, of two the even one.
func (a nat) float() float64 {
	n := len(a)
	if n <= 2 {
		top := uint64(0)
		for i := range n {
			top |= uint64(a[i]) << (32 * i)
		}
		return float64(top)
	}
	lead := bits.LeadingZeros32(a[n-1])
	top := (uint64(a[n-1])<<32|uint64(a[n-2]))<<lead | uint64(a[n-3])>>(32-lead)
	// What lies below the highest 64 bits can only tell a tie from more than that: one bit will do for all of it.
	if a[n-3]<<lead != 0 || !a[:n-3].isZero() {
		top |= 1
	}
	return math.Ldexp(float64(top), 32*(n-2)-lead)
}

// text: written to a base; takes the number apart.
func (a nat) text(base uint32) string {
	unit, size := base, 1
	for uint64(unit)*uint64(base) < 1<<32 { // as many digits a division as go into a word
		unit *= base
		size++
	}
	var out []byte
	for len(a) > 0 {
		var left uint32
		a, left = a.part(unit)
		for range size {
			out = append(out, digits[left%base])
			left /= base
		}
	}
	for len(out) > 0 && out[len(out)-1] == '0' {
		out = out[:len(out)-1]
	}
	if len(out) == 0 {
		return "0"
	}
	slices.Reverse(out)
	return string(out)
}
