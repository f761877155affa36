package library

import (
	"iter"

	"ecmacore/heap"
	"ecmacore/machine"
)

// fillVisits: the functions that call another with each item of a list.
func fillVisits(m *machine.Machine, p *heap.Object) {
	setFunction(m, p, "every", 1, every)
	setFunction(m, p, "some", 1, some)
	setFunction(m, p, "forEach", 1, forEach)
	setFunction(m, p, "map", 1, mapItems)
	setFunction(m, p, "filter", 1, filter)
	setFunction(m, p, "reduce", 1, reduce)
	setFunction(m, p, "reduceRight", 1, reduceRight)
}

// visit is a list, and a function that is called for its items, on a value.
type visit struct {
	list
	function *heap.Object
	on       heap.Value
}

func visitOf(m *machine.Machine, this heap.Value, args []heap.Value) visit {
	l := listOf(m, this)
	return visit{list: l, function: needFunction(m, machine.Arg(args, 0)), on: machine.Arg(args, 1)}
}

// ask: what the function gives for an item.
func (t visit) ask(n uint64, item heap.Value) heap.Value {
	return t.m.Call(t.function, t.on, item, counted(n), t.value())
}

func every(m *machine.Machine, this heap.Value, args []heap.Value) heap.Value {
	t := visitOf(m, this, args)
	return heap.Boolean(!t.meets(false))
}

func some(m *machine.Machine, this heap.Value, args []heap.Value) heap.Value {
	t := visitOf(m, this, args)
	return heap.Boolean(t.meets(true))
}

// meets: whether the function gives what is taken for that; then no more is asked.
func (t visit) meets(truth bool) bool {
	for n, v := range t.items() {
		if machine.Truth(t.ask(n, v)) == truth {
			return true
		}
	}
	return false
}

func forEach(m *machine.Machine, this heap.Value, args []heap.Value) heap.Value {
	t := visitOf(m, this, args)
	for n, v := range t.items() {
		t.ask(n, v)
	}
	return heap.Value{}
}

func mapItems(m *machine.Machine, this heap.Value, args []heap.Value) heap.Value {
	t := visitOf(m, this, args)
	a := newArray(m)
	a.putLength(t.length)
	for n, v := range t.items() {
		a.define(n, t.ask(n, v))
	}
	return a.value()
}

func filter(m *machine.Machine, this heap.Value, args []heap.Value) heap.Value {
	t := visitOf(m, this, args)
	a := newArray(m)
	for n, v := range t.items() {
		if machine.Truth(t.ask(n, v)) {
			a.add(v)
		}
	}
	return a.value()
}

func reduce(m *machine.Machine, this heap.Value, args []heap.Value) heap.Value {
	l := listOf(m, this)
	return l.reduced(l.items(), args)
}

func reduceRight(m *machine.Machine, this heap.Value, args []heap.Value) heap.Value {
	l := listOf(m, this)
	return l.reduced(l.itemsBack(l.length), args)
}

// reduced: the sum of items, to which the second argument comes first, if there is one.
func (l list) reduced(items iter.Seq2[uint64, heap.Value], args []heap.Value) heap.Value {
	f := needFunction(l.m, machine.Arg(args, 0))
	sum, has := machine.Arg(args, 1), len(args) > 1
	for n, v := range items {
		if has {
			v = l.m.Call(f, heap.Value{}, sum, v, counted(n), l.value())
		}
		sum, has = v, true
	}
	if !has {
		panic(l.m.TypeError())
	}
	return sum
}
