package units_test

import (
	"math/rand/v2"
	"slices"
	"testing"

	"ecmacore/units"
)

// placesOf: the slow way.
func placesOf(l, part []uint16) []int {
	var places []int
	for at := 0; at+len(part) <= len(l); at++ {
		if slices.Equal(l[at:at+len(part)], part) {
			places = append(places, at)
		}
	}
	return places
}

// P101: where a part stands: also where it lies in itself.
func TestPlaces(t *testing.T) {
	r := rand.New(rand.NewPCG(9, 10))
	row := func(n int) []uint16 {
		l := make([]uint16, r.IntN(n))
		for i := range l {
			l[i] = uint16('a' + r.IntN(2))
		}
		return l
	}
	found := 0
	for range 50000 {
		l, part := row(14), row(7)
		got := slices.Collect(units.Places(l, part))
		if want := placesOf(l, part); !slices.Equal(got, want) {
			t.Fatalf("Places(%c, %c) = %d, want %d", l, part, got, want)
		}
		found += len(got)
	}
	if found < 50000 {
		t.Errorf("only %d were found", found)
	}
	for at := range units.Places([]uint16{1, 1, 1}, []uint16{1}) { // it ends where nothing more is asked
		if at == 1 {
			break
		}
	}
}

// However alike the units are, both rows are gone through once. (The slow way would take hours.)
func TestPlacesAlike(t *testing.T) {
	l := slices.Repeat([]uint16{'a'}, 1<<20)
	part := append(slices.Clone(l[:1<<19]), 'b')
	for at := range units.Places(l, part) {
		t.Errorf("found at %d", at)
	}
	n := 0
	for range units.Places(l, part[:1<<19]) {
		n++
	}
	if n != 1<<19+1 {
		t.Errorf("%d places", n)
	}
}
