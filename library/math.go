package library

import (
	"math"

	"ecmacore/heap"
	"ecmacore/machine"
)

func fillMath(m *machine.Machine) {
	o := m.Make("Math", m.Prototypes.Object)
	set(m, m.Global, "Math", heap.Of(o), usual())
	setNumber(m, o, "E", math.E)
	setNumber(m, o, "LN10", math.Ln10)
	setNumber(m, o, "LN2", math.Ln2)
	setNumber(m, o, "LOG2E", math.Log2E)
	setNumber(m, o, "LOG10E", math.Log10E)
	setNumber(m, o, "PI", math.Pi)
	setNumber(m, o, "SQRT1_2", math.Sqrt2/2)
	setNumber(m, o, "SQRT2", math.Sqrt2)
	setFunction(m, o, "abs", 1, ofNumber(math.Abs))
	setFunction(m, o, "ceil", 1, ofNumber(math.Ceil))
	setFunction(m, o, "floor", 1, ofNumber(math.Floor))
	setFunction(m, o, "sqrt", 1, ofNumber(math.Sqrt))
	setFunction(m, o, "round", 1, ofNumber(round))
	setFunction(m, o, "pow", 2, pow)
	setFunction(m, o, "max", 2, greatest)
	setFunction(m, o, "min", 2, least)
}

// ofNumber: a function of one number.
func ofNumber(f func(float64) float64) callee {
	return func(m *machine.Machine, _ heap.Value, args []heap.Value) heap.Value {
		return heap.Number(f(m.Number(machine.Arg(args, 0))))
	}
}

// round: the floor of half of one more would not do, as that sum is rounded itself; what is left above the floor is not, or not across a half.
func round(x float64) float64 {
	r := math.Floor(x)
	if x-r >= 0.5 {
		r++
	}
	return math.Copysign(r, x)
}

func pow(m *machine.Machine, _ heap.Value, args []heap.Value) heap.Value {
	x := m.Number(machine.Arg(args, 0))
	y := m.Number(machine.Arg(args, 1))
	if math.IsNaN(y) || math.IsInf(y, 0) && math.Abs(x) == 1 {
		return heap.Number(math.NaN())
	}
	return heap.Number(math.Pow(x, y))
}

func greatest(m *machine.Machine, _ heap.Value, args []heap.Value) heap.Value {
	x := math.Inf(-1)
	for _, v := range args {
		x = max(x, m.Number(v))
	}
	return heap.Number(x)
}

func least(m *machine.Machine, _ heap.Value, args []heap.Value) heap.Value {
	x := math.Inf(1)
	for _, v := range args {
		x = min(x, m.Number(v))
	}
	return heap.Number(x)
}
