// Package machine: a machine with a stack, which runs code on the objects of a world: see chapter 7. What the library's functions need of it is exported.
package machine

import (
	"strings"

	"ecmacore/api"
	"ecmacore/heap"
)

// Machine has a world's objects, and what a run needs.
type Machine struct {
	Prototypes Prototypes
	Global     *heap.Object

	heap  *heap.Heap
	stack []heap.Value
	frame *frame // the innermost
	calls int    // how many are being done
	shut  int    // how many functions of the library and conversions are being done, which hold objects that the collector does not know of
	tally
	run
}

// run is what one run has for itself.
type run struct {
	steps, most int // how many it took, and may take
	lines       []string
	printed     int // what the lines count
	searched    searched
}

// New: a machine with the prototypes and an empty global object.
func New() *Machine {
	m := &Machine{heap: heap.New()}
	m.makePrototypes()
	m.Global = m.Make(ObjectClass, m.Prototypes.Object)
	return m
}

// Make: a new object.
func (m *Machine) Make(class string, behind *heap.Object) *heap.Object {
	return m.heap.Make(class, behind)
}

// Step: the run takes one; it ends, if there is none.
func (m *Machine) Step() {
	if m.steps >= m.most {
		panic(Cut{})
	}
	m.steps++
}

// Print: a line of strings.
func (m *Machine) Print(parts []heap.Value) {
	texts := make([]string, len(parts))
	for i, p := range parts {
		texts[i] = p.Text
		m.printed += p.Count() + 1
	}
	if m.printed > api.MaxPrint {
		panic(Cut{})
	}
	m.lines = append(m.lines, strings.Join(texts, " "))
}
