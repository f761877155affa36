package library_test

import (
	"math"
	"slices"
	"strings"
	"testing"

	"ecmacore/api"
	"ecmacore/heap"
	"ecmacore/library"
	"ecmacore/machine"
)

func filled() *machine.Machine { return filledTo(0) }

func filledTo(level int) *machine.Machine {
	m := machine.New()
	library.Fill(m, level)
	return m
}

// flags of a property, each by a letter; a length behind a function's.
func flags(p heap.Property) string {
	text := ""
	for _, f := range []struct {
		is     bool
		letter string
	}{{p.Writable, "w"}, {p.Enumerable, "e"}, {p.Configurable, "c"}, {p.Functions, "f"}} {
		if f.is {
			text += f.letter
		}
	}
	if machine.IsFunction(p.Value) {
		n, _ := p.Value.Ref.Own(heap.KeyOf("length"))
		text += string(rune('0' + int(n.Value.Num)))
	}
	return text
}

// written: the properties of an object, in order, with their flags.
func written(o *heap.Object) string {
	var l []string
	for _, k := range o.Keys() {
		p, _ := o.Own(k)
		l = append(l, k.Text()+":"+flags(p))
	}
	return strings.Join(l, " ")
}

// P85 to P89: which properties there are, in which order, with which flags, and what stands behind each object.
func TestAll(t *testing.T) {
	m := filled()
	p := m.Prototypes
	for _, c := range []struct {
		name          string
		o             *heap.Object
		class, behind string
		props         string
	}{
		{"Object's", p.Object, "Object", "", "toString:wc0 valueOf:wc0"},
		{"Function's", p.Function, "Function", "Object's", "length: toString:wc0"},
		{"Array's", p.Array, "Array", "Object's", "length:w toString:wc0 join:wc1"},
		{"Boolean's", p.Boolean, "Boolean", "Object's", "toString:wc0 valueOf:wc0"},
		{"Number's", p.Number, "Number", "Object's", "toString:wc1 valueOf:wc0"},
		{"String's", p.String, "String", "Object's", "length: toString:wc0 valueOf:wc0"},
		{"RegExp's", p.RegExp, "RegExp", "Object's", ""},
		{"Error's", p.Error, "Error", "Object's", "constructor:wc1 name:wc message:wc toString:wc0"},
		{"RangeError's", p.RangeError, "Error", "Error's", "constructor:wc1 name:wc message:wc"},
		{"ReferenceError's", p.ReferenceError, "Error", "Error's", "constructor:wc1 name:wc message:wc"},
		{"SyntaxError's", p.SyntaxError, "Error", "Error's", "constructor:wc1 name:wc message:wc"},
		{"TypeError's", p.TypeError, "Error", "Error's", "constructor:wc1 name:wc message:wc"},
		{"global", m.Global, "Object", "Object's", "NaN: Infinity: undefined: print:wc1 Error:wc1 RangeError:wc1 ReferenceError:wc1 SyntaxError:wc1 TypeError:wc1"},
	} {
		behind := map[string]*heap.Object{"": nil, "Object's": p.Object, "Error's": p.Error}[c.behind]
		if c.o.Class != c.class || c.o.Proto != behind || c.o.Fixed {
			t.Errorf("%s: class %q, behind it %v", c.name, c.o.Class, c.o.Proto)
		}
		if got := written(c.o); got != c.props {
			t.Errorf("%s\n has %s\nwant %s", c.name, got, c.props)
		}
	}
}

// P85: what the prototypes are themselves.
func TestPrototypes(t *testing.T) {
	m := filled()
	p := m.Prototypes
	if v := m.Call(p.Function, heap.Null(), heap.Number(1)); v != (heap.Value{}) {
		t.Errorf("Function's prototype gives %+v", v)
	}
	for _, c := range []struct {
		o    *heap.Object
		want heap.Value
	}{
		{p.Boolean, heap.Boolean(false)}, {p.Number, heap.Number(0)}, {p.String, heap.String("")},
	} {
		got := m.Call(m.Get(heap.Of(c.o), heap.KeyOf("valueOf")).Ref, heap.Of(c.o))
		if got != c.want || math.Signbit(got.Num) {
			t.Errorf("%s's prototype is %+v", c.o.Class, got)
		}
	}
	for _, o := range []*heap.Object{p.Array, p.String, p.Function} {
		if v := m.Get(heap.Of(o), heap.KeyOf("length")); v != heap.Number(0) {
			t.Errorf("%s's prototype has length %+v", o.Class, v)
		}
	}
}

// Chapter 8: the library's functions.
func TestFunctions(t *testing.T) {
	m := filled()
	p := m.Prototypes
	count := 0
	for _, o := range []*heap.Object{m.Global, p.Object, p.Function, p.Array, p.Boolean, p.Number, p.String, p.Error} {
		for _, k := range o.Keys() {
			prop, _ := o.Own(k)
			if !machine.IsFunction(prop.Value) || k.Text() == "constructor" {
				continue
			}
			count++
			f := prop.Value.Ref
			want := "length:"
			if strings.HasSuffix(k.Text(), "Error") {
				want = "length: prototype:"
			}
			if f.Class != "Function" || f.Proto != p.Function || written(f) != want {
				t.Errorf("%s: %s, %v, %s", k.Text(), f.Class, f.Proto == p.Function, written(f))
			}
		}
	}
	if count != 18 {
		t.Errorf("%d functions", count)
	}
}

// P87: each constructor and its prototype know each other.
func TestConstructors(t *testing.T) {
	m := filled()
	p := m.Prototypes
	for name, o := range map[string]*heap.Object{"Error": p.Error, "RangeError": p.RangeError, "ReferenceError": p.ReferenceError, "SyntaxError": p.SyntaxError, "TypeError": p.TypeError} {
		f := m.Get(heap.Of(m.Global), heap.KeyOf(name))
		own := func(key string) heap.Value {
			p, _ := o.Own(heap.KeyOf(key))
			return p.Value
		}
		if own("constructor") != f || own("name") != heap.String(name) || own("message") != heap.String("") || m.Get(f, heap.KeyOf("prototype")) != heap.Of(o) {
			t.Errorf("%s: %s", name, written(o))
		}
		e := m.Call(f.Ref, heap.Value{}, heap.Number(7))
		message, _ := e.Ref.Own(heap.KeyOf("message"))
		if e.Ref.Class != "Error" || e.Ref.Proto != o || written(e.Ref) != "message:wc" || message.Value != heap.String("7") {
			t.Errorf("%s(7): %s, %s, %+v", name, e.Ref.Class, written(e.Ref), message)
		}
		if e := m.Call(f.Ref, heap.Value{}, heap.Value{}); written(e.Ref) != "" {
			t.Errorf("%s(undefined): %s", name, written(e.Ref))
		}
	}
}

// called: what a function gives, "!" for a TypeError, "cut" where it needs a step: outside of a run there are none.
func called(m *machine.Machine, f *heap.Object, this heap.Value) (text string) {
	defer func() {
		switch e := recover().(type) {
		case nil:
		case machine.Cut:
			text = "cut"
		case machine.Thrown:
			if e.Value.Ref.Proto == m.Prototypes.TypeError {
				text = "!"
			}
		default:
			panic(e)
		}
	}()
	v := m.Call(f, this)
	if v.Kind == api.Object {
		return "[object]"
	}
	return m.String(v).Text
}

// P88, P89: on which values the functions can be called. (Programs of level 0 cannot call all of them on all of these.)
func TestThis(t *testing.T) {
	m := filled()
	p := m.Prototypes
	values := []heap.Value{{}, heap.Null(), heap.Boolean(true), heap.Number(5), heap.String("a\U0001F600")}
	boxes := make([]heap.Value, len(values))
	for i, v := range values[2:] {
		boxes[2+i] = heap.Of(m.Object(v))
	}
	boxes[0], boxes[1] = heap.Of(m.Make("Object", p.Object)), heap.Of(m.Make("Function", p.Function))
	all := slices.Concat(values, boxes)
	for _, c := range []struct {
		o    *heap.Object
		name string
		want []string // of each of all: what it gives; !: TypeError
	}{
		{p.Object, "toString", []string{"[object Undefined]", "[object Null]", "[object Boolean]", "[object Number]", "[object String]", "[object Object]", "[object Function]", "[object Boolean]", "[object Number]", "[object String]"}},
		{p.Object, "valueOf", []string{"!", "!", "[object]", "[object]", "[object]", "[object]", "[object]", "[object]", "[object]", "[object]"}},
		{p.Function, "toString", []string{"!", "!", "!", "!", "!", "!", "function () { [code] }", "!", "!", "!"}},
		{p.Array, "toString", []string{"!", "!", "[object Boolean]", "[object Number]", "[object String]", "[object Object]", "[object Function]", "[object Boolean]", "[object Number]", "[object String]"}},
		{p.Array, "join", []string{"!", "!", "", "", "cut", "", "", "", "", "cut"}},
		{p.String, "toString", []string{"!", "!", "!", "!", "a\U0001F600", "!", "!", "!", "!", "a\U0001F600"}},
		{p.String, "valueOf", []string{"!", "!", "!", "!", "a\U0001F600", "!", "!", "!", "!", "a\U0001F600"}},
		{p.Number, "toString", []string{"!", "!", "!", "5", "!", "!", "!", "!", "5", "!"}},
		{p.Number, "valueOf", []string{"!", "!", "!", "5", "!", "!", "!", "!", "5", "!"}},
		{p.Boolean, "toString", []string{"!", "!", "true", "!", "!", "!", "!", "true", "!", "!"}},
		{p.Boolean, "valueOf", []string{"!", "!", "true", "!", "!", "!", "!", "true", "!", "!"}},
		{p.Error, "toString", []string{"!", "!", "!", "!", "!", "Error", "Error", "Error", "Error", "Error"}},
	} {
		f := m.Get(heap.Of(c.o), heap.KeyOf(c.name)).Ref
		for i, this := range all {
			if got := called(m, f, this); got != c.want[i] {
				t.Errorf("%s's %s on %+v: %q, want %q", c.o.Class, c.name, this, got, c.want[i])
			}
		}
	}
}
