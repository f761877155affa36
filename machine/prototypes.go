package machine

import "ecmacore/heap"

// The classes of objects that the machine makes. (An Array's is heap's.)
const (
	ObjectClass    = "Object"
	FunctionClass  = "Function"
	ArgumentsClass = "Arguments"
	BooleanClass   = "Boolean"
	NumberClass    = "Number"
	StringClass    = "String"
	RegExpClass    = "RegExp"
	ErrorClass     = "Error"
)

// Prototypes stand behind objects, each by its class, or kind of error.
type Prototypes struct {
	Object, Function, Array, Boolean, Number, String, RegExp  *heap.Object
	Error, RangeError, ReferenceError, SyntaxError, TypeError *heap.Object
}

func (p *Prototypes) all() []*heap.Object {
	return []*heap.Object{
		p.Object, p.Function, p.Array, p.Boolean, p.Number, p.String, p.RegExp,
		p.Error, p.RangeError, p.ReferenceError, p.SyntaxError, p.TypeError,
	}
}

func (m *Machine) makePrototypes() {
	p := &m.Prototypes
	p.Object = m.Make(ObjectClass, nil)
	p.Function = m.Make(FunctionClass, p.Object)
	m.becomeFunction(p.Function, 0, &Function{Call: giveNothing})
	p.Array = m.Make(heap.Array, p.Object)
	p.Boolean = m.box(BooleanClass, p.Object, heap.Boolean(false))
	p.Number = m.box(NumberClass, p.Object, heap.Number(0))
	p.String = m.box(StringClass, p.Object, heap.String(""))
	p.RegExp = m.Make(RegExpClass, p.Object)
	p.Error = m.Make(ErrorClass, p.Object)
	p.RangeError = m.Make(ErrorClass, p.Error)
	p.ReferenceError = m.Make(ErrorClass, p.Error)
	p.SyntaxError = m.Make(ErrorClass, p.Error)
	p.TypeError = m.Make(ErrorClass, p.Error)
}

func giveNothing(*Machine, heap.Value, []heap.Value) heap.Value { return heap.Value{} }
