package machine

import (
	"testing"

	"ecmacore/api"
	"ecmacore/code"
	"ecmacore/heap"
)

// kept: how many objects of a class there are behind a collection.
func kept(m *Machine, class string) int {
	n := 0
	m.Collect()
	for i := range 1000 {
		if o := m.heap.Numbered(i); o != nil && o.Class == class {
			n++
		}
	}
	return n
}

// What only variables, calls, catches and for ins hold is kept while they can be gone on with, and gone behind that. (Arrays are counted: there is one beside those of the program.)
func TestHeld(t *testing.T) {
	for _, c := range []struct {
		src  string
		want []int // of each call of empty
	}{
		{"var a = [1]; empty(); a = 0; empty()", []int{1, 0}},
		{"function f(a) { empty(); a = 0; empty() } f([1])", []int{1, 0}},
		{"function f(a) { empty() } f([1]); empty()", []int{1, 0}},
		{"function f() { var a = [[1], [2]]; g(); a = 0; g() } function g() { empty() } f()", []int{3, 0}},
		{"function f(a) { return function () { return a } } var g = f([1]); empty(); g(); empty(); g = 0; empty()", []int{1, 1, 0}},
		{"function f(a, b) { return function (c) { return function () { empty(); return a } } } var g = f([1], [2])([3]); g(); g = 0; empty()", []int{3, 0}},
		{"function f() { empty() } f([1], [2]); (function () { arguments; empty() })([1], [2])", []int{0, 2}},
		{"try { throw [1] } catch (e) { empty(); (function () { empty() })(); e = 0; empty() } empty()", []int{1, 1, 0, 0}},
		{"try { throw [1] } catch (e) { var f = function () { return e } } empty(); f = 0; empty()", []int{1, 0}},
		{"for (var k in [1, 2]) { empty(); break } empty()", []int{1, 0}},
		{"for (var k in [1, 2]) { for (var j in [3]) empty() } empty()", []int{2, 2, 0}},
		{"function f() { for (var k in [1]) return empty() } f(); empty()", []int{1, 0}},
		{"try { for (var k in [1]) throw 1 } catch (e) { empty() }", []int{0}},
		{"(function () { try { return [1] } finally { empty() } })(); empty()", []int{1, 0}},
		{"try { try { throw [1] } finally { empty() } } catch (e) { } empty()", []int{1, 0}},
		{"l: try { throw [1] } finally { empty(); break l } empty()", []int{1, 0}},
		{"l: { try { [1]; break l } finally { empty() } } empty()", []int{0, 0}},
		{"function F() { this.a = [1]; empty() } new F; empty()", []int{1, 0}},
		{"var o = {f: function () { empty() }}; [[1], o.f(), [2]]; empty()", []int{2, 0}},
		{"print2([1], (function () { empty() })()); function print2(a) { empty() }", []int{1, 1}},
		{"({x: [1], get y() { empty() }}).y; empty()", []int{1, 0}},
		{"({set y(v) { v = 0; empty() }}).y = [1]; empty()", []int{1, 0}},
		{"var o = {a: [1], get x() { o = 0; empty(); return 1 }}; o.x += o.x + 1", []int{1}},
		{"(function f() { f.a = [1]; empty() })(); empty()", []int{1, 0}},
		{"function f(n) { var a = [n]; if (n) f(n - 1); else empty() } f(9)", []int{10}},
	} {
		var got []int
		m := watched(func(m *Machine) { got = append(got, kept(m, heap.Array)-1) })
		if r := m.Run(compiled(t, c.src), 1000); len(got) != len(c.want) || r.How == api.Cut {
			t.Errorf("%s: %d, %+v", c.src, got, r)
			continue
		}
		for i, n := range c.want {
			if got[i] != n {
				t.Errorf("%s: call %d: %d Arrays, want %d", c.src, i, got[i], n)
			}
		}
	}
}

// While functions of the library and conversions work, nothing is collected: they hold objects that nobody knows of. Else it is, also in functions.
func TestShut(t *testing.T) {
	for _, c := range []struct {
		src  string
		want int
	}{
		{"see()", 1}, {"f(); function f() { see() }", 1}, {"new f; function f() { see() }", 1}, {"({get x() { see() }}).x", 1}, {"({set x(v) { see() }}).x = 1", 1}, {"for (({set x(v) { see() }}).x in [1]) ;", 1},
		{"+{valueOf: function () { see(); return 1 }}", 2}, {"[1].join({toString: function () { see(); return '' }})", 3}, {"({})[{toString: function () { see(); return '' }}]", 2}, {"({get valueOf() { see() }}) + ''", 2}, {"[].length = {valueOf: function () { see(); return 1 }}", 2},
		{"try { +{valueOf: function () { throw 1 }} } catch (e) { see() }", 1}, {"try { [1].join({toString: function () { throw 1 }}) } catch (e) { see() }", 1},
	} {
		shut := 0
		m := watched(func(*Machine) {})
		see := m.MakeFunction(0, &Function{Call: func(m *Machine, _ heap.Value, _ []heap.Value) heap.Value {
			shut = m.shut
			return heap.Value{}
		}})
		m.Define(m.Global, heap.KeyOf("see"), heap.Whole(heap.Of(see), heap.AllFlags()))
		join := m.MakeFunction(1, &Function{Call: func(m *Machine, _ heap.Value, args []heap.Value) heap.Value {
			return m.String(Arg(args, 0))
		}})
		m.Define(m.Prototypes.Array, heap.KeyOf("join"), heap.Whole(heap.Of(join), heap.AllFlags()))
		m.Run(compiled(t, c.src), 1000)
		if shut != c.want {
			t.Errorf("%s: %d, want %d", c.src, shut, c.want)
		}
	}
}

// Many functions with one scope are gone through as one.
func TestScopeOnce(t *testing.T) {
	s := &scope{outer: &scope{variables: make([]heap.Value, 1)}, variables: make([]heap.Value, 1)}
	m := New()
	a, b := m.Make(heap.Array, nil), m.Make(heap.Array, nil)
	s.variables[0], s.outer.variables[0] = heap.Of(a), heap.Of(b)
	c := &code.Code{}
	m.frame = &frame{code: c, scope: s, outer: &frame{code: c, scope: s.outer}}
	for range 3 {
		if n := kept(m, heap.Array); n != 3 {
			t.Errorf("%d Arrays", n)
		}
	}
	m.frame = m.frame.outer
	if n := kept(m, heap.Array); n != 2 {
		t.Errorf("%d Arrays", n)
	}
}

// rounds counts how often the collector came by.
type rounds int

func (r *rounds) Hold(*heap.Marker) { *r++ }

// It is collected now and then, but not so often that to go through all objects takes long beside what the program does.
func TestSeldom(t *testing.T) {
	const keep = "var keep = []; for (var i = 0; i < 6000; i++) keep[i] = {}; "
	for _, c := range []struct {
		src         string
		least, most int
	}{
		{"for (var i = 0; i < 2000; i++) ({})", 0, 0},
		{"for (var i = 0; i < 20000; i++) ;", 0, 0},
		{"for (var i = 0; i < 20000; i++) ({})", 6, 9},
		{keep, 2, 6},
		{keep + "for (var i = 0; i < 20000; i++) ;", 3, 15},
		{keep + "for (var i = 0; i < 20000; i++) ({})", 5, 25},
		{keep + "keep = 0; for (var i = 0; i < 20000; i++) ;", 3, 7},
	} {
		var r rounds
		m := New()
		m.Global.Inner = &r
		m.Run(compiled(t, c.src), 1<<20)
		if n := int(r); n < c.least || n > c.most {
			t.Errorf("%s: collected %d times, want %d to %d", c.src, n, c.least, c.most)
		}
	}
}
