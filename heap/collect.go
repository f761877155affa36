package heap

// Holder holds objects beside the properties of one: what a function needs, what a run works on.
type Holder interface {
	Hold(m *Marker) // tells the marker all of them
}

// Marker is told what is held, and so what is kept.
type Marker struct {
	work   []*Object // met, but not gone through
	round  int       // which collection it is
	seen   int       // how often it was told something
	shapes bool      // whether shapes are collected, too
}

// First: whether this mark is met for the first time in this collection. So what many hold can be gone through once.
func (m *Marker) First(mark *int) bool {
	first := *mark != m.round
	*mark = m.round
	return first
}

// Object is held (nil: none is).
func (m *Marker) Object(o *Object) {
	m.seen++
	if o != nil && !o.kept {
		o.kept = true
		m.work = append(m.work, o)
	}
}

// Value is held.
func (m *Marker) Value(v Value) { m.Object(v.Ref) }

// Shape is held: objects that take its steps again come to it, and to no other.
func (m *Marker) Shape(s *Shape) {
	if !m.shapes {
		return
	}
	for ; s != nil && !s.kept && !s.alone; s = s.from {
		s.kept = true
		s.names.kept = max(s.names.kept, s.count)
	}
}

// Collect: objects that cannot be reached from the roots are gone; how many.
func (h *Heap) Collect(roots Holder) int {
	h.rounds++
	m := &Marker{round: h.rounds, shapes: h.lost >= h.shapes/8}
	roots.Hold(m)
	for len(m.work) > 0 {
		o := m.work[len(m.work)-1]
		m.work = m.work[:len(m.work)-1]
		m.through(o)
	}
	h.effort = m.seen
	gone := h.sweep()
	if m.shapes {
		h.shapes, h.lost = h.first.sweep(), 0
	}
	return gone
}

// Effort of the last collection: how much it had to look at.
func (h *Heap) Effort() int { return h.effort }

func (m *Marker) through(o *Object) {
	m.Object(o.Proto)
	m.Shape(o.shape)
	for _, p := range o.named {
		m.property(p)
	}
	for _, v := range o.row {
		m.Value(v)
	}
	for _, p := range o.strewn {
		m.property(p)
	}
	if o.Inner != nil {
		o.Inner.Hold(m)
	}
}

func (m *Marker) property(p Property) {
	m.Value(p.Value)
	m.Object(p.Get)
	m.Object(p.Set)
}

func (h *Heap) sweep() int {
	rest := h.objects[:0]
	for _, o := range h.objects {
		if o.kept {
			o.kept = false
			rest = append(rest, o)
		} else {
			h.lost += 1 + len(o.named)
		}
	}
	gone := len(h.objects) - len(rest)
	clear(h.objects[len(rest):])
	h.objects = rest
	return gone
}

// sweep lets go the shapes that no object has or can come by, and their names; how many are left.
func (s *Shape) sweep() int {
	left := 0
	work := []*Shape{s}
	for len(work) > 0 {
		s := work[len(work)-1]
		work = work[:len(work)-1]
		s.kept = false
		left++
		if s.count == s.names.kept { // of those that share the names, the last
			s.names.cut(s.count)
			s.names.kept = 0
		}
		for step, next := range s.next {
			if next.kept {
				work = append(work, next)
			} else {
				delete(s.next, step)
			}
		}
	}
	return left
}
