package library

import (
	"ecmacore/api"
	"ecmacore/heap"
	"ecmacore/machine"
	"ecmacore/units"
)

// subject: a text in which patterns are looked for.
type subject struct {
	m     *machine.Machine
	text  heap.Value
	units []uint16
}

func subjectOf(m *machine.Machine, text heap.Value) subject {
	return subject{m: m, text: text, units: m.Units(text)}
}

// piece of the text.
func (s subject) piece(from, to int) heap.Value {
	if len(s.units) == len(s.text.Text) { // its bytes are its units
		return s.text.Cut(from, to)
	}
	return heap.Counted(units.Text(s.units[from:to]), to-from)
}

// pieces: what was found, and its groups; undefined is one that found nothing.
func (s subject) pieces(found []int) []heap.Value {
	pieces := make([]heap.Value, len(found)/2)
	for i := range pieces {
		if from, to := found[2*i], found[2*i+1]; from >= 0 {
			pieces[i] = s.piece(from, to)
		}
	}
	return pieces
}

// patternOf an argument: the object, and what it holds.
func patternOf(m *machine.Machine, v heap.Value) (*heap.Object, *machine.Pattern) {
	if p := machine.PatternOf(v); p != nil {
		return v.Ref, p
	}
	p := m.NewPattern(textOr(m, v, ""), heap.String(""))
	return m.MakePattern(p), p
}

func lastIndex() heap.Key { return heap.Key{Name: "lastIndex"} }

func putLastIndex(m *machine.Machine, o *heap.Object, at int) {
	m.Put(heap.Of(o), lastIndex(), heap.Number(float64(at)))
}

// exec: what an object's pattern finds in the text, from its lastIndex on; or null.
func (s subject) exec(o *heap.Object, p *machine.Pattern) heap.Value {
	from := integer(s.m, s.m.Get(heap.Of(o), lastIndex()))
	if !p.Global() {
		from = 0
	}
	var found []int
	if from >= 0 && from <= float64(len(s.units)) {
		found = s.m.Find(p, s.units, int(from))
	}
	if found == nil {
		putLastIndex(s.m, o, 0)
		return heap.Null()
	}
	if p.Global() {
		putLastIndex(s.m, o, found[1])
	}
	return s.told(found)
}

// told: an Array that tells what was found, and where.
func (s subject) told(found []int) heap.Value {
	a := newArray(s.m)
	for _, v := range s.pieces(found) {
		a.add(v)
	}
	set(s.m, a.object, "index", heap.Number(float64(found[0])), heap.AllFlags())
	set(s.m, a.object, "input", s.text, heap.AllFlags())
	return a.value()
}

func match(m *machine.Machine, this heap.Value, args []heap.Value) heap.Value {
	s := subjectOf(m, textOf(m, this))
	o, p := patternOf(m, machine.Arg(args, 0))
	if !p.Global() {
		return s.exec(o, p)
	}
	putLastIndex(m, o, 0)
	return s.matchAll(o, p)
}

// matchAll: an Array of all that is found; null, if nothing is.
func (s subject) matchAll(o *heap.Object, p *machine.Pattern) heap.Value {
	a, last := newArray(s.m), 0
	for found := s.exec(o, p); found.Kind != api.Null; found = s.exec(o, p) {
		at := int(s.m.Get(heap.Of(o), lastIndex()).Num)
		if at == last { // nothing was passed
			at++
			putLastIndex(s.m, o, at)
		}
		last = at
		a.add(s.m.Get(found, keyAt(0)))
	}
	if a.length == 0 {
		return heap.Null()
	}
	return a.value()
}

func search(m *machine.Machine, this heap.Value, args []heap.Value) heap.Value {
	s := subjectOf(m, textOf(m, this))
	_, p := patternOf(m, machine.Arg(args, 0))
	if found := m.Find(p, s.units, 0); found != nil {
		return heap.Number(float64(found[0]))
	}
	return heap.Number(-1)
}
