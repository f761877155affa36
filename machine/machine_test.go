package machine_test

import (
	"math"
	"testing"

	"ecmacore/api"
	"ecmacore/code"
	"ecmacore/heap"
	"ecmacore/machine"
	"ecmacore/parse"
)

func compiled(t *testing.T, src string) *code.Code {
	t.Helper()
	n, err := parse.Program(src)
	if err != nil {
		t.Fatal(err)
	}
	return code.Compile(n)
}

// caught: the error that f throws, by what stands behind it; nil: none.
func caught(f func()) (behind *heap.Object) {
	defer func() {
		switch e := recover().(type) {
		case nil:
		case machine.Thrown:
			behind = e.Value.Ref.Proto
		default:
			panic(e)
		}
	}()
	f()
	return nil
}

// function: one that remembers on what it was called, and with what.
func function(m *machine.Machine, this *heap.Value, args *[]heap.Value, gives heap.Value) *heap.Object {
	return m.MakeFunction(0, &machine.Function{Call: func(_ *machine.Machine, t heap.Value, a []heap.Value) heap.Value {
		*this, *args = t, a
		return gives
	}})
}

func define(t *testing.T, o *heap.Object, key string, told heap.Told) {
	t.Helper()
	if err := o.Define(heap.KeyOf(key), told); err != nil {
		t.Fatal(err)
	}
}

func functions(get, set *heap.Object) heap.Told {
	return heap.Told{Property: heap.Property{Get: get, Set: set}, HasGet: true, HasSet: true}
}

// P74, P75: properties that are functions, of an object, behind it, and of what is no object: they are called on the value itself.
func TestFunctionsAsProperties(t *testing.T) {
	m := machine.New()
	var this heap.Value
	var args []heap.Value
	f := function(m, &this, &args, heap.Number(7))
	behind := m.Make("Object", m.Prototypes.Object)
	o := m.Make("Object", behind)
	define(t, o, "own", functions(f, f))
	define(t, behind, "far", functions(f, f))
	define(t, o, "none", functions(nil, nil))
	define(t, m.Prototypes.Object, "all", functions(f, f))
	values := []heap.Value{heap.Of(o), heap.Number(1), heap.String("a"), heap.Boolean(true)}
	for _, c := range []struct {
		v   heap.Value
		key string
	}{{values[0], "own"}, {values[0], "far"}, {values[0], "all"}, {values[1], "all"}, {values[2], "all"}, {values[3], "all"}} {
		k := heap.KeyOf(c.key)
		if got := m.Get(c.v, k); got != heap.Number(7) || this != c.v || len(args) != 0 {
			t.Errorf("Get of %s of %+v: %+v, on %+v with %v", c.key, c.v, got, this, args)
		}
		this, args = heap.Value{}, nil
		m.Put(c.v, k, heap.Null())
		if this != c.v || len(args) != 1 || args[0] != heap.Null() {
			t.Errorf("Put to %s of %+v: on %+v with %v", c.key, c.v, this, args)
		}
		this, args = heap.Value{}, nil
	}
	none := heap.KeyOf("none")
	if m.Get(values[0], none) != (heap.Value{}) || caught(func() { m.Put(values[0], none, heap.Null()) }) != m.Prototypes.TypeError {
		t.Error("no functions")
	}
	if len(o.Keys()) != 2 {
		t.Errorf("Put made a property: %v", o.Keys())
	}
}

// P75: a string's own units and length, also where functions are found behind them.
func TestPutToString(t *testing.T) {
	m := machine.New()
	var this heap.Value
	var args []heap.Value
	f := function(m, &this, &args, heap.Value{})
	define(t, m.Prototypes.Object, "0", functions(f, f))
	define(t, m.Prototypes.Object, "1", functions(f, f))
	s := heap.String("a")
	if got := caught(func() { m.Put(s, heap.KeyOf("0"), heap.Null()) }); got != m.Prototypes.TypeError || args != nil {
		t.Error("a unit")
	}
	if got := caught(func() { m.Put(s, heap.KeyOf("1"), heap.Null()) }); got != nil || this != s {
		t.Error("no unit")
	}
	if m.Get(s, heap.KeyOf("0")) != s || m.Get(s, heap.KeyOf("length")) != heap.Number(1) {
		t.Error("Get")
	}
}

// P75: what is found behind and is not writable; what is fixed.
func TestPutRefused(t *testing.T) {
	m := machine.New()
	behind := m.Make("Object", nil)
	o := m.Make("Object", behind)
	define(t, behind, "x", heap.Whole(heap.Number(1), heap.Traits{}))
	define(t, behind, "y", heap.Whole(heap.Number(1), heap.Traits{Writable: true}))
	if caught(func() { m.Put(heap.Of(o), heap.KeyOf("x"), heap.Null()) }) != m.Prototypes.TypeError {
		t.Error("x")
	}
	m.Put(heap.Of(o), heap.KeyOf("y"), heap.Null())
	if p, has := o.Own(heap.KeyOf("y")); !has || p.Traits != heap.AllFlags() {
		t.Errorf("y: %+v", p)
	}
	o.Fixed = true
	m.Put(heap.Of(o), heap.KeyOf("y"), heap.Number(2))
	if caught(func() { m.Put(heap.Of(o), heap.KeyOf("z"), heap.Null()) }) != m.Prototypes.TypeError || m.Get(heap.Of(o), heap.KeyOf("y")) != heap.Number(2) {
		t.Error("fixed")
	}
}

// P73: objects of booleans, numbers and strings.
func TestObject(t *testing.T) {
	m := machine.New()
	p := m.Prototypes
	for _, c := range []struct {
		v      heap.Value
		class  string
		behind *heap.Object
	}{
		{heap.Boolean(true), "Boolean", p.Boolean}, {heap.Number(math.Inf(1)), "Number", p.Number}, {heap.String("a\u00e9"), "String", p.String},
	} {
		o := m.Object(c.v)
		b, ok := o.Inner.(*heap.Boxed)
		if !ok || b.Value != c.v || o.Class != c.class || o.Proto != c.behind || m.Object(c.v) == o || m.Object(heap.Of(o)) != o {
			t.Errorf("%+v: %s", c.v, o.Class)
		}
		length, has := o.Own(heap.KeyOf("length"))
		if has != (c.v.Kind == api.String) || has && (length.Value != heap.Number(2) || length.Traits != heap.Traits{}) {
			t.Errorf("%+v: length %+v", c.v, length)
		}
	}
	for _, v := range []heap.Value{{}, heap.Null()} {
		if caught(func() { m.Object(v) }) != p.TypeError {
			t.Errorf("%+v is an object", v)
		}
	}
}

// P83: the flags of variables, which are the global object's properties in the order of the program.
func TestVariables(t *testing.T) {
	m := machine.New()
	define(t, m.Global, "b", heap.Whole(heap.Number(7), heap.Traits{Configurable: true}))
	if r := m.Run(compiled(t, "{ var c, a = 1 } var b, c = 2"), 0); r.How != api.Ended {
		t.Errorf("%+v", r)
	}
	for i, want := range []struct {
		key   string
		value float64
		flags heap.Traits
	}{{"b", 7, heap.Traits{Configurable: true}}, {"c", 2, heap.Traits{Writable: true, Enumerable: true}}, {"a", 1, heap.Traits{Writable: true, Enumerable: true}}} {
		k := m.Global.Keys()[i]
		if p, _ := m.Global.Own(k); k.Text() != want.key || p.Value != heap.Number(want.value) || p.Traits != want.flags {
			t.Errorf("%d: %s %+v, want %+v", i, k.Text(), p, want)
		}
	}
}

// P83: a function that is declared where the global object has a property of that name.
func TestDeclaredFunctions(t *testing.T) {
	for _, c := range []struct {
		was   heap.Told
		text  string // what is thrown
		flags heap.Traits
	}{
		{heap.Whole(heap.Number(1), heap.Traits{Configurable: true}), "", heap.Traits{Writable: true, Enumerable: true}},
		{heap.Whole(heap.Number(1), heap.AllFlags()), "", heap.Traits{Writable: true, Enumerable: true}},
		{heap.Whole(heap.Number(1), heap.Traits{Writable: true, Enumerable: true}), "", heap.Traits{Writable: true, Enumerable: true}},
		{heap.Whole(heap.Number(1), heap.Traits{Writable: true}), "Error", heap.Traits{Writable: true}},
		{heap.Whole(heap.Number(1), heap.Traits{Enumerable: true}), "Error", heap.Traits{Enumerable: true}},
		{heap.Told{HasGet: true, HasConfigurable: true, Property: heap.Property{Traits: heap.Traits{Configurable: true}}}, "", heap.Traits{Writable: true, Enumerable: true}},
		{heap.Told{HasGet: true, HasEnumerable: true, Property: heap.Property{Traits: heap.Traits{Enumerable: true}}}, "Error", heap.Traits{Enumerable: true, Functions: true}},
	} {
		m := machine.New()
		define(t, m.Global, "f", c.was)
		r := m.Run(compiled(t, "function f() { }"), 0)
		p, _ := m.Global.Own(heap.KeyOf("f"))
		if r.Text != c.text || p.Traits != c.flags || machine.IsFunction(p.Value) != (c.text == "") {
			t.Errorf("%+v: %+v, %+v", c.was, r, p)
		}
	}
}

// P83: a Set that is not configurable is not called.
func TestDeclaredOverFunctions(t *testing.T) {
	m := machine.New()
	var this heap.Value
	var args []heap.Value
	f := function(m, &this, &args, heap.Value{})
	told := functions(f, f)
	told.Enumerable, told.HasEnumerable = true, true
	define(t, m.Global, "f", told)
	if r := m.Run(compiled(t, "function f() { }"), 0); r.How != api.Thrown || args != nil {
		t.Errorf("%+v, %v", r, args)
	}
}

// P82: the properties of a function, of what stands behind those that it makes, and of arguments: in which order, with which flags.
func TestFunctionProperties(t *testing.T) {
	m := machine.New()
	m.Run(compiled(t, "function f(a, b, c) { return arguments } var l = f(7, 8)"), 9)
	f := m.Get(heap.Of(m.Global), heap.KeyOf("f"))
	behind := m.Get(f, heap.KeyOf("prototype"))
	l := m.Get(heap.Of(m.Global), heap.KeyOf("l"))
	for _, c := range []struct {
		o     *heap.Object
		class string
		proto *heap.Object
		keys  []string
		props []heap.Property
	}{
		{f.Ref, "Function", m.Prototypes.Function, []string{"length", "prototype"}, []heap.Property{{Value: heap.Number(3)}, {Value: behind, Traits: heap.Traits{Writable: true}}}},
		{behind.Ref, "Object", m.Prototypes.Object, []string{"constructor"}, []heap.Property{{Value: f, Traits: heap.Traits{Writable: true, Configurable: true}}}},
		{l.Ref, "Arguments", m.Prototypes.Object, []string{"0", "1", "length"}, []heap.Property{{Value: heap.Number(7), Traits: heap.AllFlags()}, {Value: heap.Number(8), Traits: heap.AllFlags()}, {Value: heap.Number(2), Traits: heap.Traits{Writable: true, Configurable: true}}}},
	} {
		if c.o.Class != c.class || c.o.Proto != c.proto || len(c.o.Keys()) != len(c.keys) {
			t.Fatalf("%s, %v, want %s, %q", c.o.Class, c.o.Keys(), c.class, c.keys)
		}
		for i, k := range c.o.Keys() {
			if p, _ := c.o.Own(k); k.Text() != c.keys[i] || p != c.props[i] {
				t.Errorf("%s: %s %+v, want %s %+v", c.class, k.Text(), p, c.keys[i], c.props[i])
			}
		}
	}
}

// P83: where variables may not come to the global object.
func TestFixedGlobal(t *testing.T) {
	m := machine.New()
	m.Global.Fixed = true
	for _, src := range []string{"var a", "function a() { }"} {
		if r := m.Run(compiled(t, src), 0); r.How != api.Thrown || r.Text != "Error" {
			t.Errorf("%s: %+v", src, r)
		}
	}
	if r := m.Run(compiled(t, ";"), 0); r.How != api.Ended {
		t.Errorf("%+v", r)
	}
}
