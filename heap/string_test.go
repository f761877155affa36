package heap

import (
	"math/rand/v2"
	"slices"
	"testing"

	"ecmacore/units"
)

func someUnits(r *rand.Rand, edges []uint16, most int) []uint16 {
	l := make([]uint16, r.IntN(most))
	for i := range l {
		l[i] = edges[r.IntN(len(edges))]
	}
	return l
}

// standsAt: the slow way to ask.
func standsAt(l, part []uint16, at int) bool {
	return at+len(part) <= len(l) && slices.Equal(l[at:at+len(part)], part)
}

// P70, P101, P103: what is asked of a string is so of its units, also where halves of pairs are cut apart.
func TestStringUnits(t *testing.T) {
	r := rand.New(rand.NewPCG(11, 12))
	for i := range 40000 {
		edges := []uint16{'a', 'b'}
		if i%2 > 0 {
			edges = append(edges, 0xe9, 0xd83d, 0xde00, 0xffff)
		}
		l, part := someUnits(r, edges, 9), someUnits(r, edges, 3)
		v, w := String(units.Text(l)), String(units.Text(part))
		from := r.IntN(len(l) + 1)
		to := r.IntN(len(l) + 1)
		if got, want := v.Cut(from, to), units.Text(l[from:max(from, to)]); got != String(want) {
			t.Fatalf("Cut(%x, %d, %d) = %+v", l, from, to, got)
		}
		first, last := -1, -1
		for at := range len(l) + 1 {
			if standsAt(l, part, at) && at >= from && first < 0 {
				first = at
			}
			if standsAt(l, part, at) && at <= from {
				last = at
			}
		}
		if got := v.Index(w, from); got != first {
			t.Fatalf("Index(%x, %x, %d) = %d, want %d", l, part, from, got, first)
		}
		if got := v.LastIndex(w, from); got != last {
			t.Fatalf("LastIndex(%x, %x, %d) = %d, want %d", l, part, from, got, last)
		}
		for n, u := range l {
			if got := v.Unit(n); v.Code(n) != u || got != String(units.Text([]uint16{u})) {
				t.Fatalf("unit %d of %x: %x, %+v", n, l, v.Code(n), got)
			}
		}
	}
}
