package machine

import (
	"math"

	"ecmacore/api"
	"ecmacore/code"
	"ecmacore/heap"
	"ecmacore/num"
	"ecmacore/units"
)

func (m *Machine) unary(op code.Op, v heap.Value) heap.Value {
	switch op {
	case code.More:
		return heap.Number(v.Num + 1)
	case code.Less:
		return heap.Number(v.Num - 1)
	case code.Minus:
		return heap.Number(-m.Number(v))
	case code.Turn:
		return heap.Number(float64(^num.Int32(m.Number(v))))
	case code.Not:
		return heap.Boolean(!Truth(v))
	case code.TypeOf:
		return heap.String(TypeOf(v))
	}
	return heap.Number(m.Number(v)) // of ToNumber and Plus
}

func (m *Machine) binary(op code.Op, left, right heap.Value) heap.Value {
	turned := false
	switch op {
	case code.Add:
		return m.add(left, right)
	case code.Below, code.Above, code.AtMost, code.AtLeast:
		return heap.Boolean(m.compare(op, left, right))
	case code.NotIdentical:
		turned = true
		fallthrough
	case code.Identical:
		return heap.Boolean((left == right) != turned)
	case code.NotEqual:
		turned = true
		fallthrough
	case code.Equal:
		return heap.Boolean(m.equal(left, right) != turned)
	case code.In:
		return heap.Boolean(m.isIn(left, right))
	case code.InstanceOf:
		return heap.Boolean(m.isInstance(left, right))
	}
	x := m.Number(left)
	return heap.Number(calculated(op, x, m.Number(right)))
}

func (m *Machine) add(left, right heap.Value) heap.Value {
	left = m.Primitive(left, HintNumber)
	right = m.Primitive(right, HintNumber)
	if left.Kind != api.String && right.Kind != api.String {
		return heap.Number(m.Number(left) + m.Number(right))
	}
	return m.Join(m.String(left), m.String(right))
}

// calculated: what operators give that work on numbers alone.
func calculated(op code.Op, x, y float64) float64 {
	switch op {
	case code.Subtract:
		return x - y
	case code.Multiply:
		return x * y
	case code.Divide:
		return x / y
	case code.Rest:
		return math.Mod(x, y)
	}
	return float64(bitwise(op, x, y))
}

func bitwise(op code.Op, x, y float64) int64 {
	a, b := num.Int32(x), num.Int32(y)
	by := num.Uint32(y) & 31
	switch op {
	case code.ShiftLeft:
		a <<= by
	case code.ShiftRight:
		a >>= by
	case code.ShiftZeros:
		return int64(num.Uint32(x) >> by)
	case code.BitAnd:
		a &= b
	case code.BitXor:
		a ^= b
	case code.BitOr:
		a |= b
	}
	return int64(a)
}

func (m *Machine) compare(op code.Op, left, right heap.Value) bool {
	left = m.Primitive(left, HintNumber)
	right = m.Primitive(right, HintNumber)
	var x, y float64
	if left.Kind == api.String && right.Kind == api.String {
		x = float64(units.Compare(left.Text, right.Text))
	} else {
		x, y = m.Number(left), m.Number(right)
	}
	switch op {
	case code.Below:
		return x < y
	case code.Above:
		return x > y
	case code.AtMost:
		return x <= y
	}
	return x >= y
}

// equal: as == has it: one of both is taken for something else, until both are of one kind.
func (m *Machine) equal(left, right heap.Value) bool {
	for left.Kind != right.Kind {
		switch {
		case IsNothing(left) || IsNothing(right):
			return IsNothing(left) && IsNothing(right)
		case left.Kind == api.Boolean:
			left = heap.Number(left.Num)
		case right.Kind == api.Boolean:
			right = heap.Number(right.Num)
		case left.Kind == api.Object:
			left = m.Primitive(left, HintNumber)
		case right.Kind == api.Object:
			right = m.Primitive(right, HintNumber)
		default:
			return m.Number(left) == m.Number(right)
		}
	}
	return left == right
}

func (m *Machine) isIn(left, right heap.Value) bool {
	if right.Kind != api.Object {
		panic(m.TypeError())
	}
	return Has(right.Ref, m.Key(left))
}

func (m *Machine) isInstance(left, right heap.Value) bool {
	if !IsFunction(right) {
		panic(m.TypeError())
	}
	if left.Kind != api.Object {
		return false
	}
	behind := m.Get(heap.Of(target(right.Ref)), prototypeKey())
	if behind.Kind != api.Object {
		panic(m.TypeError())
	}
	for o := left.Ref.Proto; o != nil; o = o.Proto {
		if o == behind.Ref {
			return true
		}
	}
	return false
}
