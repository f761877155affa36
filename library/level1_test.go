package library_test

import (
	"strings"
	"testing"

	"ecmacore/heap"
	"ecmacore/machine"
)

// What level 1 adds to objects, behind what they have already.
const (
	moreGlobal   = " Object:wc1 Function:wc1 Array:wc1"
	moreObject   = " constructor:wc1 toLocaleString:wc0 hasOwnProperty:wc1 isPrototypeOf:wc1 propertyIsEnumerable:wc1"
	moreFunction = " constructor:wc1 apply:wc2 call:wc1 bind:wc1"
	moreArray    = " constructor:wc1 toLocaleString:wc0 concat:wc1 pop:wc0 push:wc1 reverse:wc0 shift:wc0 slice:wc2 sort:wc1 splice:wc2 unshift:wc1 indexOf:wc1 lastIndexOf:wc1 every:wc1 some:wc1 forEach:wc1 map:wc1 filter:wc1 reduce:wc1 reduceRight:wc1"
	ofObject     = "length: prototype: getPrototypeOf:wc1 getOwnPropertyDescriptor:wc2 getOwnPropertyNames:wc1 create:wc2 defineProperty:wc3 defineProperties:wc2 seal:wc1 freeze:wc1 preventExtensions:wc1 isSealed:wc1 isFrozen:wc1 isExtensible:wc1 keys:wc1"
	ofFunction   = "length: prototype:0"
	ofArray      = "length: prototype: isArray:wc1"
)

// P90 to P96: which properties there are from level 1 on, in which order, with which flags and lengths. (Function's prototype is a function of length 0 itself.)
func TestLevelOne(t *testing.T) {
	lower := filledTo(-1)
	for _, level := range []int{1, 2, 3, 1 << 40} {
		m := filledTo(level)
		p, q := m.Prototypes, lower.Prototypes
		for _, c := range []struct {
			name  string
			o, of *heap.Object
			more  string
		}{
			{"global", m.Global, lower.Global, moreGlobal}, {"Object's", p.Object, q.Object, moreObject}, {"Function's", p.Function, q.Function, moreFunction}, {"Array's", p.Array, q.Array, moreArray},
			{"Error's", p.Error, q.Error, ""}, {"TypeError's", p.TypeError, q.TypeError, ""},
		} {
			if got, want := written(c.o), written(c.of)+c.more; got != want && (level == 1 || !strings.HasPrefix(got, want)) {
				t.Errorf("%s\n has %s\nwant %s", c.name, got, want)
			}
		}
		for name, want := range map[string]string{"Object": ofObject, "Function": ofFunction, "Array": ofArray} {
			if got := written(m.Get(heap.Of(m.Global), heap.KeyOf(name)).Ref); got != want {
				t.Errorf("%s\n has %s\nwant %s", name, got, want)
			}
		}
	}
}

// Chapter 9: constructors and their prototypes know each other; all else are functions without a prototype, which make nothing.
func TestLevelOneFunctions(t *testing.T) {
	m := filledTo(1)
	count := 0
	for name, o := range map[string]*heap.Object{"Object": m.Prototypes.Object, "Function": m.Prototypes.Function, "Array": m.Prototypes.Array} {
		f := m.Get(heap.Of(m.Global), heap.KeyOf(name))
		if m.Get(f, heap.KeyOf("prototype")) != heap.Of(o) || m.Get(heap.Of(o), heap.KeyOf("constructor")) != f || f.Ref.Class != "Function" || f.Ref.Proto != m.Prototypes.Function {
			t.Errorf("%s and its prototype", name)
		}
		for _, o := range []*heap.Object{o, f.Ref} {
			for _, k := range o.Keys() {
				p, _ := o.Own(k)
				if !machine.IsFunction(p.Value) || k.Text() == "constructor" || k.Text() == "prototype" {
					continue
				}
				count++
				g := p.Value.Ref
				if g.Class != "Function" || g.Proto != m.Prototypes.Function || written(g) != "length:" || g.Inner.(*machine.Function).New != nil {
					t.Errorf("%s of %s: %s", k.Text(), name, written(g))
				}
			}
		}
	}
	if count != 45 { // 13 of Object, 1 of Array; 6, 4 and 21 of the prototypes
		t.Errorf("%d functions", count)
	}
}
