package library

import (
	"ecmacore/heap"
	"ecmacore/machine"
	"ecmacore/num"
)

func pop(m *machine.Machine, this heap.Value, _ []heap.Value) heap.Value {
	l := listOf(m, this)
	if l.length == 0 {
		return l.stayEmpty()
	}
	last := l.get(l.length - 1)
	l.remove(l.length - 1)
	l.putLength(l.length - 1)
	return last
}

// stayEmpty: nothing can be taken from an empty list; but it has a length then.
func (l list) stayEmpty() heap.Value {
	l.putLength(0)
	return heap.Value{}
}

func push(m *machine.Machine, this heap.Value, args []heap.Value) heap.Value {
	l := listOf(m, this)
	l.putAll(l.length, args)
	return l.putLength(l.length + uint64(len(args)))
}

func reverse(m *machine.Machine, this heap.Value, _ []heap.Value) heap.Value {
	l := listOf(m, this)
	for n := range l.length / 2 {
		m.Step()
		l.exchange(n, l.length-1-n)
	}
	return l.value()
}

// exchange: what stands at two places. All is asked of both before one of them changes.
func (l list) exchange(lower, upper uint64) {
	low := l.get(lower)
	high := l.get(upper)
	hasLow, hasHigh := l.has(lower), l.has(upper)
	l.become(lower, hasLow, high, hasHigh)
	l.become(upper, hasHigh, low, hasLow)
}

// become: a place gets a value, or, if there is none, goes, if it was there.
func (l list) become(n uint64, was bool, v heap.Value, is bool) {
	switch {
	case is:
		l.put(n, v)
	case was:
		l.remove(n)
	}
}

func shift(m *machine.Machine, this heap.Value, _ []heap.Value) heap.Value {
	l := listOf(m, this)
	if l.length == 0 {
		return l.stayEmpty()
	}
	first := l.get(0)
	l.moveDown(1, 1)
	l.remove(l.length - 1)
	l.putLength(l.length - 1)
	return first
}

func unshift(m *machine.Machine, this heap.Value, args []heap.Value) heap.Value {
	l := listOf(m, this)
	count := uint64(len(args))
	l.moveUp(0, count)
	l.putAll(0, args)
	return l.putLength(l.length + count)
}

func splice(m *machine.Machine, this heap.Value, args []heap.Value) heap.Value {
	l := listOf(m, this)
	from := l.from(machine.Arg(args, 0))
	left := float64(l.length - from)
	count := uint64(max(min(num.Int(m.Number(machine.Arg(args, 1))), left), 0))
	gone := newArray(m)
	gone.addItems(l, from, from+count)
	gone.whole()
	l.replace(from, count, behind(args, 2))
	return gone.value()
}

// replace: so many items from a place on, by others.
func (l list) replace(from, count uint64, by []heap.Value) {
	end, added := from+count, uint64(len(by))
	if added < count {
		l.moveDown(end, count-added)
		l.removeLast(count - added)
	}
	if added > count {
		l.moveUp(end, added-count)
	}
	l.putAll(from, by)
	l.putLength(l.length - count + added)
}

// removeLast: so many places, from the end on.
func (l list) removeLast(count uint64) {
	for n := range count {
		l.m.Step()
		l.remove(l.length - 1 - n)
	}
}
