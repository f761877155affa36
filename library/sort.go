package library

import (
	"ecmacore/api"
	"ecmacore/heap"
	"ecmacore/machine"
	"ecmacore/units"
)

// sorter tells which of two values comes behind the other.
type sorter struct {
	m        *machine.Machine
	function *heap.Object // nil: by their texts
}

func sortList(m *machine.Machine, this heap.Value, args []heap.Value) heap.Value {
	l, s := listOf(m, this), sorter{m: m}
	if v := machine.Arg(args, 0); v.Kind != api.Undefined {
		s.function = needFunction(m, v)
	}
	values, undefined := l.sortable()
	l.putAll(0, s.sorted(values))
	end := uint64(len(values))
	for range undefined {
		l.put(end, heap.Value{})
		end++
	}
	for n := end; n < l.length; n++ {
		m.Step()
		l.remove(n)
	}
	return l.value()
}

// sortable: the items that are there, but for undefined; how many of these there are.
func (l list) sortable() (values []heap.Value, undefined int) {
	for _, v := range l.items() {
		if v.Kind == api.Undefined {
			undefined++
		} else {
			values = append(values, v)
		}
	}
	return values, undefined
}

// sorted: both halves, one behind the other, then merged.
func (s sorter) sorted(l []heap.Value) []heap.Value {
	if len(l) < 2 {
		return l
	}
	half := len(l) / 2
	first := s.sorted(l[:half:half])
	second := s.sorted(l[half:])
	return s.merged(first, second)
}

func (s sorter) merged(first, second []heap.Value) []heap.Value {
	l := make([]heap.Value, 0, len(first)+len(second))
	for len(first) > 0 && len(second) > 0 {
		if s.comesBehind(first[0], second[0]) {
			l, second = append(l, second[0]), second[1:]
		} else {
			l, first = append(l, first[0]), first[1:]
		}
	}
	return append(append(l, first...), second...)
}

func (s sorter) comesBehind(v, w heap.Value) bool {
	s.m.Step()
	if s.function != nil {
		return s.m.Number(s.m.Call(s.function, heap.Value{}, v, w)) > 0
	}
	v = s.m.String(v)
	w = s.m.String(w)
	return units.Compare(v.Text, w.Text) > 0
}
