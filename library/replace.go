package library

import (
	"ecmacore/heap"
	"ecmacore/machine"
	"ecmacore/units"
)

// replacer puts a text together anew, from the left.
type replacer struct {
	subject
	function *heap.Object // it gives what comes in the place of what was found; nil:
	by       []uint16     // this comes there, with signs in it
	made     []uint16
}

func replace(m *machine.Machine, this heap.Value, args []heap.Value) heap.Value {
	s := subjectOf(m, textOf(m, this))
	places := s.replaced(machine.Arg(args, 0))
	r := replacer{subject: s}
	if by := machine.Arg(args, 1); machine.IsFunction(by) {
		r.function = by.Ref
	} else {
		r.by = units.Units(m.String(by).Text)
	}
	end := 0
	for _, found := range places {
		r.add(s.units[end:found[0]])
		r.put(found)
		m.Fits(len(r.made))
		end = found[1]
	}
	r.add(s.units[end:])
	return textOfUnits(m, r.made)
}

// replaced: the places where something else comes.
func (s subject) replaced(v heap.Value) [][]int {
	p := machine.PatternOf(v)
	switch {
	case p == nil:
		return s.firstPlace(s.m.String(v))
	case p.Global():
		putLastIndex(s.m, v.Ref, 0)
		return s.all(p)
	}
	if found := s.m.Find(p, s.units, 0); found != nil {
		return [][]int{found}
	}
	return nil
}

func (s subject) firstPlace(part heap.Value) [][]int {
	at := s.text.Index(part, 0)
	if at < 0 {
		return nil
	}
	return [][]int{{at, at + part.Count()}}
}

// all places where a pattern is found, one behind the other.
func (s subject) all(p *machine.Pattern) [][]int {
	var all [][]int
	for from := 0; ; {
		found := s.m.Find(p, s.units, from)
		if found == nil {
			return all
		}
		all = append(all, found)
		from = found[1]
		if found[0] == found[1] {
			from++
		}
	}
}

func (r *replacer) add(l []uint16) { r.made = append(r.made, l...) }

// put what comes in the place of what was found.
func (r *replacer) put(found []int) {
	if r.function == nil {
		r.expand(found)
		return
	}
	args := append(r.pieces(found), heap.Number(float64(found[0])), r.text)
	given := r.m.Call(r.function, heap.Value{}, args...)
	r.add(units.Units(r.m.String(given).Text))
}

// expand: the signs of the text that comes stand for what was found.
func (r *replacer) expand(found []int) {
	for i := 0; i < len(r.by); {
		l, passed := r.sign(r.by[i:], found)
		r.add(l)
		r.m.Fits(len(r.made)) // so that many signs cannot make it longer and longer
		i += passed
	}
}

// sign: what the front of a text stands for, and how many units that front has.
func (r *replacer) sign(l []uint16, found []int) ([]uint16, int) {
	if len(l) < 2 || l[0] != '$' {
		return l[:1], 1
	}
	switch l[1] {
	case '$':
		return l[:1], 2
	case '&':
		return r.units[found[0]:found[1]], 2
	case '`':
		return r.units[:found[0]], 2
	case '\'':
		return r.units[found[1]:], 2
	}
	for digits := 2; digits > 0; digits-- {
		if group := number(l[1:], digits); group > 0 && 2*group < len(found) {
			return r.group(found, group), 1 + digits
		}
	}
	return l[:1], 1
}

// group: what it found, or nothing.
func (r *replacer) group(found []int, n int) []uint16 {
	from, to := found[2*n], found[2*n+1]
	return r.units[max(from, 0):max(to, 0)]
}

// number: of so many digits at the front; 0, if they are none.
func number(l []uint16, digits int) int {
	if len(l) < digits {
		return 0
	}
	n := 0
	for _, u := range l[:digits] {
		if u < '0' || u > '9' {
			return 0
		}
		n = 10*n + int(u-'0')
	}
	return n
}
