package heap

import "slices"

// Step from a shape to the next: a name comes to an object, with its traits.
type Step struct {
	Name string
	Traits
}

// Shape: which names came to an object, in which order, with which traits. Objects that came to the same by the same steps have one Shape.
type Shape struct {
	names *names
	count int // how many of the names are this shape's
	from  *Shape
	next  map[Step]*Shape
	alone bool // it is one object's, which lost a name, or of which traits turned: no step leads to it
	kept  bool // the collector met it
}

// names, in the order in which they came. Shapes that follow each other share them, and each counts its own, or a row of n steps would take n*n names.
type names struct {
	list []string
	at   map[string]int
	kept int // the most that a shape counts which the collector met
}

func newShape() *Shape { return &Shape{names: &names{at: map[string]int{}}} }

// find: where a name stands.
func (s *Shape) find(name string) (int, bool) {
	i, has := s.names.at[name]
	return i, has && i < s.count
}

// stands: whether a name stands there.
func (s *Shape) stands(name string, at int) bool {
	return at < s.count && s.names.list[at] == name && (!s.alone || s.names.has(at))
}

// after: the shape that follows by a step.
func (s *Shape) after(step Step) *Shape {
	if s.alone {
		s.names.add(step.Name)
		return s.names.alone()
	}
	if s.next[step] == nil {
		s.grow(step)
	}
	return s.next[step]
}

func (s *Shape) grow(step Step) {
	n := s.names
	if len(n.list) > s.count { // another step was taken from here
		n = n.part(s.count)
	}
	n.add(step.Name)
	if s.next == nil {
		s.next = map[Step]*Shape{}
	}
	s.next[step] = &Shape{names: n, count: s.count + 1, from: s}
}

// apart: a shape with the same names that no other object has, and that nobody met before.
func (s *Shape) apart() *Shape {
	if s.alone {
		return s.names.alone()
	}
	return s.names.part(s.count).alone()
}

// alone: each change of such names gives a new shape, so that who remembers one of before doesn't take it for this.
func (n *names) alone() *Shape {
	return &Shape{names: n, count: len(n.list), alone: true}
}

func (n *names) add(name string) {
	n.at[name] = len(n.list)
	n.list = append(n.list, name)
}

// part: the first of them, not shared.
func (n *names) part(count int) *names {
	p := &names{list: slices.Clone(n.list[:count]), at: make(map[string]int, count)}
	for i, name := range p.list {
		p.at[name] = i
	}
	return p
}

// has: whether the name that came there is still the one; it leaves a gap when it goes.
func (n *names) has(i int) bool {
	at, has := n.at[n.list[i]]
	return has && at == i
}

// cut takes away all behind the first.
func (n *names) cut(count int) {
	for _, name := range n.list[count:] {
		delete(n.at, name)
	}
	clear(n.list[count:])
	n.list = n.list[:count]
}
