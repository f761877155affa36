package library

import (
	"ecmacore/api"
	"ecmacore/heap"
	"ecmacore/machine"
	"ecmacore/num"
)

func fillArray(m *machine.Machine) {
	p := m.Prototypes.Array
	setFunction(m, p, "toString", 0, arrayText)
	setFunction(m, p, "join", 1, join)
}

func arrayText(m *machine.Machine, this heap.Value, _ []heap.Value) heap.Value {
	o := m.Object(this)
	f := get(m, o, "join")
	if !machine.IsFunction(f) {
		return classText(o.Class)
	}
	return m.Call(f.Ref, heap.Of(o))
}

func join(m *machine.Machine, this heap.Value, args []heap.Value) heap.Value {
	l := listOf(m, this)
	return l.joined(textOr(m, machine.Arg(args, 0), ","), m.String)
}

// joined: the texts of what stands at the places, with something between.
func (l list) joined(between heap.Value, textOf func(heap.Value) heap.Value) heap.Value {
	var text machine.Text
	for n := range l.length {
		l.m.Step()
		if n > 0 {
			text.Add(l.m, between)
		}
		if v := l.get(n); !machine.IsNothing(v) {
			text.Add(l.m, textOf(v))
		}
	}
	return text.Value()
}

// completeArray: what there is from level 1 on.
func completeArray(m *machine.Machine) {
	p := m.Prototypes.Array
	f := setConstructor(m, "Array", p, makeArray)
	setFunction(m, f, "isArray", 1, isArray)
	setFunction(m, p, "toLocaleString", 0, arrayLocaleText)
	setFunction(m, p, "concat", 1, concat)
	setFunction(m, p, "pop", 0, pop)
	setFunction(m, p, "push", 1, push)
	setFunction(m, p, "reverse", 0, reverse)
	setFunction(m, p, "shift", 0, shift)
	setFunction(m, p, "slice", 2, slice)
	setFunction(m, p, "sort", 1, sortList)
	setFunction(m, p, "splice", 2, splice)
	setFunction(m, p, "unshift", 1, unshift)
	setFunction(m, p, "indexOf", 1, indexOf)
	setFunction(m, p, "lastIndexOf", 1, lastIndexOf)
	fillVisits(m, p)
}

func makeArray(m *machine.Machine, args []heap.Value) heap.Value {
	if len(args) == 1 && args[0].Kind == api.Number {
		return makeLong(m, args[0].Num)
	}
	a := newArray(m)
	for _, v := range args {
		a.add(v)
	}
	return a.value()
}

// makeLong: an Array without items.
func makeLong(m *machine.Machine, length float64) heap.Value {
	n := num.Uint32(length)
	if float64(n) != length {
		panic(m.RangeError())
	}
	a := newArray(m)
	a.putLength(uint64(n))
	return a.value()
}

func isArray(_ *machine.Machine, _ heap.Value, args []heap.Value) heap.Value {
	return heap.Boolean(classArray(machine.Arg(args, 0)))
}

func classArray(v heap.Value) bool { return v.Kind == api.Object && v.Ref.Class == heap.Array }

func arrayLocaleText(m *machine.Machine, this heap.Value, _ []heap.Value) heap.Value {
	return listOf(m, this).joined(heap.String(","), func(v heap.Value) heap.Value {
		o := m.Object(v)
		f := needFunction(m, get(m, o, "toLocaleString"))
		return m.String(m.Call(f, heap.Of(o)))
	})
}

func concat(m *machine.Machine, this heap.Value, args []heap.Value) heap.Value {
	a := newArray(m)
	a.concat(heap.Of(m.Object(this)))
	for _, v := range args {
		a.concat(v)
	}
	return a.whole()
}

// concat: the items of an Array, or all else itself.
func (a *array) concat(v heap.Value) {
	if !classArray(v) {
		a.add(v)
		return
	}
	l := listOf(a.m, v)
	a.addItems(l, 0, l.length)
}

func slice(m *machine.Machine, this heap.Value, args []heap.Value) heap.Value {
	l, a := listOf(m, this), newArray(m)
	from, to := l.from(machine.Arg(args, 0)), l.length
	if v := machine.Arg(args, 1); v.Kind != api.Undefined {
		to = l.from(v)
	}
	a.addItems(l, from, to)
	return a.whole()
}

func indexOf(m *machine.Machine, this heap.Value, args []heap.Value) heap.Value {
	l, from := listOf(m, this), uint64(0)
	if len(args) > 1 && l.length > 0 {
		from = l.from(args[1])
	}
	for n := from; n < l.length; n++ {
		if v, is := l.item(n); is && v == machine.Arg(args, 0) {
			return counted(n)
		}
	}
	return heap.Number(-1)
}

func lastIndexOf(m *machine.Machine, this heap.Value, args []heap.Value) heap.Value {
	l := listOf(m, this)
	end := l.length
	if len(args) > 1 && l.length > 0 {
		end = l.endAt(args[1])
	}
	for n, v := range l.itemsBack(end) {
		if v == machine.Arg(args, 0) {
			return counted(n)
		}
	}
	return heap.Number(-1)
}

// endAt: one more than the place that an argument tells; 0, if that is ahead of the first.
func (l list) endAt(v heap.Value) uint64 {
	x, length := integer(l.m, v), float64(l.length)
	if x < 0 {
		x += length
	}
	return uint64(max(min(x+1, length), 0))
}
