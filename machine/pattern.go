package machine

import (
	"strings"

	"ecmacore/api"
	"ecmacore/heap"
	"ecmacore/regex"
	"ecmacore/units"
)

// Pattern is what an object with a pattern holds.
type Pattern struct {
	Source   heap.Value // its text
	Flags    string     // as they were told
	compiled *regex.Pattern
}

// Hold: it holds no objects.
func (p *Pattern) Hold(*heap.Marker) {}

// Global: whether it has the flag g.
func (p *Pattern) Global() bool { return strings.Contains(p.Flags, "g") }

// NewPattern: of two strings; SyntaxError, if they are none.
func (m *Machine) NewPattern(source, flags heap.Value) *Pattern {
	compiled, err := regex.Compile(source.Text, flags.Text)
	if err != nil {
		panic(m.SyntaxError())
	}
	if source.Text == "" {
		source = heap.String("(?:)") // nothing between slashes would be a comment
	}
	return &Pattern{Source: source, Flags: flags.Text, compiled: compiled}
}

// PatternOf: the pattern that a value has; nil, if it has none.
func PatternOf(v heap.Value) *Pattern {
	if v.Kind != api.Object {
		return nil
	}
	p, _ := v.Ref.Inner.(*Pattern)
	return p
}

// MakePattern: a new object with a pattern.
func (m *Machine) MakePattern(p *Pattern) *heap.Object {
	o := m.Make(RegExpClass, m.Prototypes.RegExp)
	m.BecomePattern(o, p)
	return o
}

// BecomePattern: an object gets a pattern, and what tells of it.
func (m *Machine) BecomePattern(o *heap.Object, p *Pattern) {
	o.Inner = p
	m.Define(o, heap.Key{Name: "source"}, heap.Whole(p.Source, heap.Traits{}))
	for _, flag := range []string{"global", "ignoreCase", "multiline"} {
		told := strings.Contains(p.Flags, flag[:1])
		m.Define(o, heap.Key{Name: flag}, heap.Whole(heap.Boolean(told), heap.Traits{}))
	}
	m.Define(o, heap.Key{Name: "lastIndex"}, heap.Whole(heap.Number(0), heap.Traits{Writable: true}))
}

// searched is the text that was searched last. A program that goes through a text by one call for each part of it asks for its units each time.
type searched struct {
	text  string
	units []uint16
}

// Units of a string, to be read only.
func (m *Machine) Units(v heap.Value) []uint16 {
	if s := &m.searched; s.text != v.Text {
		s.text, s.units = v.Text, units.Units(v.Text)
	}
	return m.searched.units
}

// Find: where a pattern, and each group of it, is found first in units, from a place on; nil: nowhere.
func (m *Machine) Find(p *Pattern, l []uint16, from int) []int {
	return m.found(p.compiled.Find(l, from, m.most-m.steps))
}

// Match: likewise, at that place alone.
func (m *Machine) Match(p *Pattern, l []uint16, at int) []int {
	return m.found(p.compiled.Match(l, at, m.most-m.steps))
}

// found: the steps that a pattern took are the run's, which ends, if they did not suffice.
func (m *Machine) found(places []int, steps int, err error) []int {
	m.steps += steps
	if err != nil {
		panic(Cut{})
	}
	return places
}
