package library_test

import (
	"strings"
	"testing"

	"ecmacore/heap"
	"ecmacore/machine"
)

// What level 2 adds to objects, behind what they have already.
const (
	moreNumbers = " parseInt:wc2 parseFloat:wc1 isNaN:wc1 isFinite:wc1 String:wc1 Number:wc1 Boolean:wc1 Math:wc RegExp:wc2"
	moreString  = " constructor:wc1 charAt:wc1 charCodeAt:wc1 concat:wc1 indexOf:wc1 lastIndexOf:wc1 localeCompare:wc1 match:wc1 search:wc1 replace:wc2 slice:wc2 substring:wc2 split:wc2 toLowerCase:wc0 toLocaleLowerCase:wc0 toUpperCase:wc0 toLocaleUpperCase:wc0 trim:wc0"
	moreNumber  = " constructor:wc1 toLocaleString:wc0 toFixed:wc1 toExponential:wc1 toPrecision:wc1"
	moreBoolean = " constructor:wc1"
	ofRegExps   = "source: global: ignoreCase: multiline: lastIndex:w constructor:wc2 exec:wc1 test:wc1 toString:wc0"
	ofMath      = "E: LN10: LN2: LOG2E: LOG10E: PI: SQRT1_2: SQRT2: abs:wc1 ceil:wc1 floor:wc1 sqrt:wc1 round:wc1 pow:wc2 max:wc2 min:wc2"
)

// P100 to P107: which properties there are from level 2 on, in which order, with which flags and lengths; level 1 has none of them.
func TestLevelTwo(t *testing.T) {
	lower := filledTo(1)
	for _, level := range []int{2, 3, 1 << 40} {
		m := filledTo(level)
		p, q := m.Prototypes, lower.Prototypes
		for _, c := range []struct {
			name  string
			o, of *heap.Object
			more  string
		}{
			{"global", m.Global, lower.Global, moreNumbers}, {"String's", p.String, q.String, moreString}, {"Number's", p.Number, q.Number, moreNumber}, {"Boolean's", p.Boolean, q.Boolean, moreBoolean},
			{"Object's", p.Object, q.Object, ""}, {"Function's", p.Function, q.Function, ""}, {"Array's", p.Array, q.Array, ""}, {"Error's", p.Error, q.Error, ""},
		} {
			if got, want := written(c.o), written(c.of)+c.more; got != want && (level == 2 || !strings.HasPrefix(got, want)) {
				t.Errorf("%s\n has %s\nwant %s", c.name, got, want)
			}
		}
		if got := written(p.RegExp); got != ofRegExps || written(q.RegExp) != "" {
			t.Errorf("RegExp's\n has %s\nwant %s", got, ofRegExps)
		}
		for name, want := range map[string]string{
			"String": "length: prototype: fromCharCode:wc1", "Number": "length: prototype: MAX_VALUE: MIN_VALUE: NaN: NEGATIVE_INFINITY: POSITIVE_INFINITY:",
			"Boolean": "length: prototype:", "RegExp": "length: prototype:", "Math": ofMath,
		} {
			if got := written(m.Get(heap.Of(m.Global), heap.KeyOf(name)).Ref); got != want {
				t.Errorf("%s\n has %s\nwant %s", name, got, want)
			}
		}
	}
}

// Chapter 10: constructors and their prototypes know each other; all else are functions without a prototype, which make nothing.
func TestLevelTwoFunctions(t *testing.T) {
	m := filledTo(2)
	p := m.Prototypes
	global := func(name string) heap.Value { return m.Get(heap.Of(m.Global), heap.KeyOf(name)) }
	objects := []*heap.Object{global("Math").Ref}
	for name, o := range map[string]*heap.Object{"String": p.String, "Number": p.Number, "Boolean": p.Boolean, "RegExp": p.RegExp} {
		f := global(name)
		if m.Get(f, heap.KeyOf("prototype")) != heap.Of(o) || m.Get(heap.Of(o), heap.KeyOf("constructor")) != f || f.Ref.Class != "Function" || f.Ref.Proto != p.Function || f.Ref.Inner.(*machine.Function).New == nil {
			t.Errorf("%s and its prototype", name)
		}
		objects = append(objects, o, f.Ref)
	}
	functions := []heap.Value{global("parseInt"), global("parseFloat"), global("isNaN"), global("isFinite")}
	for _, o := range objects {
		for _, k := range o.Keys() {
			v, _ := o.Own(k)
			if machine.IsFunction(v.Value) && k.Text() != "constructor" {
				functions = append(functions, v.Value)
			}
		}
	}
	if len(functions) != 4+8+1+19+6+2+3 { // global, Math, String, and of the prototypes of String, Number, Boolean, RegExp
		t.Errorf("%d functions", len(functions))
	}
	for _, v := range functions {
		if f := v.Ref; f.Class != "Function" || f.Proto != p.Function || written(f) != "length:" || f.Inner.(*machine.Function).New != nil {
			t.Errorf("a function: %s", written(f))
		}
	}
	if o := objects[0]; o.Class != "Math" || o.Proto != p.Object || o.Fixed {
		t.Errorf("Math: %s", o.Class)
	}
	if r := p.RegExp; r.Class != "RegExp" || r.Proto != p.Object || machine.PatternOf(heap.Of(r)) == nil {
		t.Errorf("RegExp's prototype: %s", r.Class)
	}
}
