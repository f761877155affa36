package units_test

import (
	"math/rand/v2"
	"slices"
	"testing"

	"ecmacore/units"
)

// some: units of which many are halves, or differ in the order of bytes and of units.
func some(r *rand.Rand) []uint16 {
	edges := []uint16{0, 'a', 0x7f, 0x80, 0x7ff, 0x800, 0xd7ff, 0xd800, 0xd83d, 0xdbff, 0xdc00, 0xde00, 0xdfff, 0xe000, 0xffff}
	l := make([]uint16, r.IntN(6))
	for i := range l {
		l[i] = edges[r.IntN(len(edges))]
	}
	return l
}

// What is said of texts is so of their units (P10).
func TestTexts(t *testing.T) {
	r := rand.New(rand.NewPCG(5, 6))
	for range 50000 {
		a, b := some(r), some(r)
		s, u := units.Text(a), units.Text(b)
		if n := units.Count(s); n != len(a) {
			t.Fatalf("Count(%q) = %d", s, n)
		}
		for i, want := range a {
			if got := units.At(s, i); got != want {
				t.Fatalf("At(%q, %d) = %x", s, i, got)
			}
		}
		both := units.Text(slices.Concat(a, b))
		if got := units.Join(s, u); got != both {
			t.Fatalf("Join(%q, %q) = %q", s, u, got)
		}
		if got := string(units.Append([]byte(s), u)); got != both {
			t.Fatalf("Append(%q, %q) = %q", s, u, got)
		}
		if got, want := units.Compare(s, u), slices.Compare(a, b); got != want {
			t.Fatalf("Compare(%q, %q) = %d", s, u, got)
		}
		common := units.Text(slices.Concat(a, a))
		if got, want := units.Compare(common, units.Join(s, u)), slices.Compare(a, b); got != want {
			t.Fatalf("Compare(%q, %q) = %d", common, units.Join(s, u), got)
		}
	}
}

// P1: places that there are not, and texts that are no UTF-8.
func TestTextsEdges(t *testing.T) {
	for _, i := range []int{-1, 3, 1 << 40} {
		if got := units.At("a\U0001F600", i); got != 0 {
			t.Errorf("At(%d) = %x", i, got)
		}
	}
	for _, s := range []string{"", "\xff", "\xed", "\xed\xa0", "\x80\x80", "\xf0\x9f"} {
		units.At(s, 0)
		units.Count(s)
		for _, u := range []string{"", "\xed\xb0\x80", "\xbf", "\xed\xb0"} {
			units.Join(s, u)
			units.Append([]byte(s), u)
			if c := units.Compare(s, u); c != -units.Compare(u, s) {
				t.Errorf("Compare(%q, %q) = %d", s, u, c)
			}
		}
	}
}
