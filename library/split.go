package library

import (
	"math"

	"ecmacore/api"
	"ecmacore/heap"
	"ecmacore/machine"
	"ecmacore/num"
	"ecmacore/units"
)

// splitter parts a text in pieces, which are next of a new Array.
type splitter struct {
	subject
	into  *array
	most  uint64
	begin int // of the piece that comes next
}

func split(m *machine.Machine, this heap.Value, args []heap.Value) heap.Value {
	s := subjectOf(m, textOf(m, this))
	by, most := machine.Arg(args, 0), uint64(math.MaxUint32)
	if v := machine.Arg(args, 1); v.Kind != api.Undefined {
		most = uint64(num.Uint32(m.Number(v)))
	}
	p := machine.PatternOf(by)
	if p == nil && by.Kind != api.Undefined {
		by = m.String(by)
	}
	t := splitter{subject: s, into: newArray(m), most: most}
	switch {
	case most == 0:
	case by.Kind == api.Undefined:
		t.end()
	case p != nil:
		t.byPattern(p)
	default:
		t.byText(units.Units(by.Text))
	}
	return t.into.value()
}

func (t *splitter) full() bool { return t.into.length == t.most }

func (t *splitter) add(v heap.Value) {
	if !t.full() {
		t.into.add(v)
	}
}

// part: the piece up to what was found, and its groups.
func (t *splitter) part(found []int) {
	t.add(t.piece(t.begin, found[0]))
	for _, group := range t.pieces(found)[1:] {
		t.add(group)
	}
	t.begin = found[1]
}

// end: the piece up to the end.
func (t *splitter) end() { t.add(t.piece(t.begin, len(t.units))) }

func (t *splitter) byPattern(p *machine.Pattern) {
	if len(t.units) == 0 && t.m.Match(p, t.units, 0) != nil {
		return
	}
	for at := 0; at < len(t.units) && !t.full(); {
		found := t.m.Match(p, t.units, at)
		if found == nil || found[1] == t.begin {
			at++
			continue
		}
		t.part(found)
		at = t.begin
	}
	t.end()
}

func (t *splitter) byText(part []uint16) {
	if len(t.units) == 0 && len(part) == 0 {
		return
	}
	for at := range units.Places(t.units, part) {
		end := at + len(part)
		if at == len(t.units) || t.full() {
			break
		}
		if at >= t.begin && end > t.begin { // it does not lie in one ahead
			t.part([]int{at, end})
		}
	}
	t.end()
}
