package units

import "iter"

// Places: where a part stands in units, from the first place on. (An empty one stands everywhere, also behind the last unit.) Both are gone through once, however alike their units are.
func Places(l, part []uint16) iter.Seq[int] {
	return func(yield func(int) bool) {
		if len(part) == 0 && !yield(0) {
			return
		}
		borders := bordersOf(part)
		n := 0 // how many units of the part stand ahead of here
		for i, u := range l {
			n = longer(part, borders, n, u)
			if n == len(part) && !yield(i+1-n) {
				return
			}
		}
	}
}

// bordersOf: for each number of units at the part's front: how many, fewer than these, stand at their front and at their end.
func bordersOf(part []uint16) []int {
	borders := make([]int, 0, len(part)+1)
	borders = append(borders, 0)
	n := 0
	for i, u := range part {
		if i > 0 {
			n = longer(part, borders, n, u)
		}
		borders = append(borders, n)
	}
	return borders
}

// longer: how many units of the part stand at the end, when one more comes behind n that stood there.
func longer(part []uint16, borders []int, n int, u uint16) int {
	for n > 0 && (n == len(part) || part[n] != u) {
		n = borders[n]
	}
	if n < len(part) && part[n] == u {
		n++
	}
	return n
}
