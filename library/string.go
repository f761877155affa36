package library

import (
	"math"

	"ecmacore/api"
	"ecmacore/heap"
	"ecmacore/machine"
	"ecmacore/num"
	"ecmacore/units"
)

// completeString: what there is from level 2 on.
func completeString(m *machine.Machine) {
	p := m.Prototypes.String
	f := setBoxer(m, "String", p, makeString)
	setFunction(m, f, "fromCharCode", 1, fromCharCode)
	setFunction(m, p, "charAt", 1, charAt)
	setFunction(m, p, "charCodeAt", 1, charCodeAt)
	setFunction(m, p, "concat", 1, concatTexts)
	setFunction(m, p, "indexOf", 1, indexOfText)
	setFunction(m, p, "lastIndexOf", 1, lastIndexOfText)
	setFunction(m, p, "localeCompare", 1, localeCompare)
	setFunction(m, p, "match", 1, match)
	setFunction(m, p, "search", 1, search)
	setFunction(m, p, "replace", 2, replace)
	setFunction(m, p, "slice", 2, sliceText)
	setFunction(m, p, "substring", 2, substring)
	setFunction(m, p, "split", 2, split)
	setFunction(m, p, "toLowerCase", 0, mapped(units.Lower))
	setFunction(m, p, "toLocaleLowerCase", 0, mapped(units.Lower))
	setFunction(m, p, "toUpperCase", 0, mapped(units.Upper))
	setFunction(m, p, "toLocaleUpperCase", 0, mapped(units.Upper))
	setFunction(m, p, "trim", 0, mapped(units.Trim))
}

func makeString(m *machine.Machine, args []heap.Value) heap.Value {
	if len(args) == 0 {
		return heap.String("")
	}
	return m.String(args[0])
}

func fromCharCode(m *machine.Machine, _ heap.Value, args []heap.Value) heap.Value {
	l := make([]uint16, len(args))
	for i, v := range args {
		l[i] = uint16(num.Uint32(m.Number(v)))
	}
	return textOfUnits(m, l)
}

// textOfUnits: as a string; RangeError, if there are too many.
func textOfUnits(m *machine.Machine, l []uint16) heap.Value {
	m.Fits(len(l))
	return heap.Counted(units.Text(l), len(l))
}

// textOf: what the functions of String's prototype are called on.
func textOf(m *machine.Machine, this heap.Value) heap.Value {
	if machine.IsNothing(this) {
		panic(m.TypeError())
	}
	return m.String(this)
}

// placeIn: a number as a place of a text, or behind its last unit.
func placeIn(text heap.Value, x float64) int {
	return int(max(0, min(num.Int(x), float64(text.Count()))))
}

// unitAt: the place of a unit that an argument tells; false, if there is none.
func unitAt(m *machine.Machine, text heap.Value, args []heap.Value) (int, bool) {
	x := integer(m, machine.Arg(args, 0))
	if x < 0 || x >= float64(text.Count()) {
		return 0, false
	}
	return int(x), true
}

func charAt(m *machine.Machine, this heap.Value, args []heap.Value) heap.Value {
	text := textOf(m, this)
	if i, is := unitAt(m, text, args); is {
		return text.Unit(i)
	}
	return heap.String("")
}

func charCodeAt(m *machine.Machine, this heap.Value, args []heap.Value) heap.Value {
	text := textOf(m, this)
	if i, is := unitAt(m, text, args); is {
		return heap.Number(float64(text.Code(i)))
	}
	return heap.Number(math.NaN())
}

func concatTexts(m *machine.Machine, this heap.Value, args []heap.Value) heap.Value {
	var all machine.Text
	all.Add(m, textOf(m, this))
	for _, v := range args {
		all.Add(m, m.String(v))
	}
	return all.Value()
}

func indexOfText(m *machine.Machine, this heap.Value, args []heap.Value) heap.Value {
	text := textOf(m, this)
	part := m.String(machine.Arg(args, 0))
	from := placeIn(text, m.Number(machine.Arg(args, 1)))
	return heap.Number(float64(text.Index(part, from)))
}

func lastIndexOfText(m *machine.Machine, this heap.Value, args []heap.Value) heap.Value {
	text := textOf(m, this)
	part := m.String(machine.Arg(args, 0))
	x := m.Number(machine.Arg(args, 1))
	if math.IsNaN(x) {
		x = math.Inf(1)
	}
	return heap.Number(float64(text.LastIndex(part, placeIn(text, x))))
}

func localeCompare(m *machine.Machine, this heap.Value, args []heap.Value) heap.Value {
	text := textOf(m, this)
	other := m.String(machine.Arg(args, 0))
	return heap.Number(float64(units.Compare(text.Text, other.Text)))
}

func sliceText(m *machine.Machine, this heap.Value, args []heap.Value) heap.Value {
	text := textOf(m, this)
	n := uint64(text.Count())
	begin, end := from(m, machine.Arg(args, 0), n), n
	if v := machine.Arg(args, 1); v.Kind != api.Undefined {
		end = from(m, v, n)
	}
	return text.Cut(int(begin), int(end))
}

func substring(m *machine.Machine, this heap.Value, args []heap.Value) heap.Value {
	text := textOf(m, this)
	begin, end := placeIn(text, m.Number(machine.Arg(args, 0))), text.Count()
	if v := machine.Arg(args, 1); v.Kind != api.Undefined {
		end = placeIn(text, m.Number(v))
	}
	return text.Cut(min(begin, end), max(begin, end))
}

// mapped: a function that gives another text for the one that it is called on.
func mapped(to func(string) string) callee {
	return func(m *machine.Machine, this heap.Value, _ []heap.Value) heap.Value {
		return heap.String(to(textOf(m, this).Text))
	}
}
