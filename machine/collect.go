package machine

import (
	"ecmacore/api"
	"ecmacore/heap"
)

// tally: what a world's Stats tell of all its runs, and what is asked to know when it is time to collect.
type tally struct {
	peak, gone   int // the most objects that were seen; how many were collected while programs ran
	hits, misses int // of dots

	rest   int // how many objects the last collection left
	passed int // steps of the program's own since then
}

// Hold: the roots: what programs can reach without going through objects.
func (m *Machine) Hold(k *heap.Marker) {
	k.Object(m.Global)
	for _, o := range m.Prototypes.all() {
		k.Object(o)
	}
	for _, v := range m.stack {
		k.Value(v)
	}
	for f := m.frame; f != nil; f = f.outer {
		f.Hold(k)
	}
}

// Collect: objects that cannot be reached are gone; how many.
func (m *Machine) Collect() int {
	gone := m.heap.Collect(m)
	m.rest, m.passed = m.heap.Live(), 0
	return gone
}

// Stats: what there is, and what was.
func (m *Machine) Stats() api.Stats {
	m.look()
	return api.Stats{Live: m.heap.Live(), Peak: m.peak, Gone: m.gone, Hits: m.hits, Misses: m.misses}
}

// look: how many objects there are now.
func (m *Machine) look() { m.peak = max(m.peak, m.heap.Live()) }

// ownStep: one that the program's own code takes.
func (m *Machine) ownStep() {
	m.Step()
	m.passed++
	m.look()
}

// collectIfDue: not while a function of the library or a conversion is being done.
func (m *Machine) collectIfDue() {
	if m.shut == 0 && m.due() {
		m.look()
		m.gone += m.Collect()
	}
}

// due: there must never be more objects than can be reached, half as many again, and 3,000; what one step makes comes to those that are few here. And what could be reached at the last collection may not be reached any more: where that can matter, it is found out when so much was done since then that to go through all objects takes little beside it.
func (m *Machine) due() bool {
	const few, least, part = 2500, 1000, 8
	live := m.heap.Live()
	return live > m.rest+m.rest/2+few || live > few && live-m.rest+m.passed > m.heap.Effort()/part+least
}
