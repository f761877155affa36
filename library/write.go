package library

import (
	"iter"
	"slices"
	"strings"

	"ecmacore/api"
	"ecmacore/heap"
	"ecmacore/machine"
	"ecmacore/num"
)

// writer of values as JSON texts.
type writer struct {
	m        *machine.Machine
	function *heap.Object                    // which gives other values, or nil
	keys     func(o *heap.Object) []heap.Key // which ones are written of an object
	blanks   heap.Value                      // that stand in front for each object in which a part lies
	line     heap.Value                      // what a part begins with: a new line and the blanks, or nothing
	within   []*heap.Object                  // those in which a part lies
}

func stringify(m *machine.Machine, _ heap.Value, args []heap.Value) heap.Value {
	w := &writer{m: m, keys: enumerableOf}
	w.choose(machine.Arg(args, 1))
	w.space(machine.Arg(args, 2))
	return w.written(atEmptyKey(m, machine.Arg(args, 0)), heap.Key{})
}

// choose: the second argument tells a function, or the only keys.
func (w *writer) choose(v heap.Value) {
	switch {
	case machine.IsFunction(v):
		w.function = v.Ref
	case classArray(v):
		only := w.onlyKeys(v.Ref)
		w.keys = func(*heap.Object) []heap.Key { return only }
	}
}

func (w *writer) onlyKeys(o *heap.Object) []heap.Key {
	var only []heap.Key
	met := map[heap.Key]struct{}{}
	for place := range placesOf(w.m, o) {
		w.m.Step()
		v := w.m.Get(heap.Of(o), place)
		if !namesKey(v) {
			continue
		}
		k := heap.KeyOf(w.m.String(v).Text)
		if _, was := met[k]; !was {
			met[k] = struct{}{}
			only = append(only, k)
		}
	}
	return only
}

// namesKey: a string, a number, or an object of these classes.
func namesKey(v heap.Value) bool {
	if v.Kind == api.Object {
		return v.Ref.Class == machine.NumberClass || v.Ref.Class == machine.StringClass
	}
	return v.Kind == api.Number || v.Kind == api.String
}

// space: the third argument tells the blanks.
func (w *writer) space(v heap.Value) {
	const most = 10
	v = unwrapped(w.m, v)
	switch v.Kind {
	case api.Number:
		w.blanks = heap.String(strings.Repeat(" ", max(0, min(within(num.Int(v.Num)), most))))
	case api.String:
		w.blanks = v.Cut(0, min(v.Count(), most))
	}
	if w.blanks.Count() > 0 {
		w.line = heap.String("\n")
	}
}

// unwrapped: what an object of class Number, String or Boolean is taken for; all else is itself.
func unwrapped(m *machine.Machine, v heap.Value) heap.Value {
	if v.Kind != api.Object {
		return v
	}
	switch v.Ref.Class {
	case machine.NumberClass:
		return heap.Number(m.Number(v))
	case machine.StringClass:
		return m.String(v)
	case machine.BooleanClass:
		return unboxed(m, v, api.Boolean)
	}
	return v
}

// written: a key of an object, as a string; undefined, if it is nothing.
func (w *writer) written(o *heap.Object, k heap.Key) heap.Value {
	w.m.Step()
	v := unwrapped(w.m, w.given(o, k))
	switch {
	case v.Kind == api.Undefined, machine.IsFunction(v):
		return heap.Value{}
	case v.Kind == api.Object:
		return w.object(v.Ref)
	case v.Kind == api.String:
		return w.quoted(v)
	case v.Kind == api.Number && v.Num-v.Num != 0:
		return heap.String("null")
	}
	return w.m.String(v)
}

// given: the value, as its toJSON and the function have it.
func (w *writer) given(o *heap.Object, k heap.Key) heap.Value {
	v, key := w.m.Get(heap.Of(o), k), heap.String(k.Text())
	if v.Kind == api.Object {
		if f := get(w.m, v.Ref, "toJSON"); machine.IsFunction(f) {
			v = w.m.Call(f.Ref, v, key)
		}
	}
	if w.function != nil {
		v = w.m.Call(w.function, heap.Of(o), key, v)
	}
	return v
}

// quoted: a string, with its quotes. What stands between escapes is taken as it is.
func (w *writer) quoted(v heap.Value) heap.Value {
	b, from := []byte{'"'}, 0
	for i := range len(v.Text) {
		if c := v.Text[i]; c < ' ' || c == '"' || c == '\\' {
			b = append(b, v.Text[from:i]...)
			b = appendEscape(b, c)
			from = i + 1
		}
	}
	b = append(b, v.Text[from:]...)
	b = append(b, '"')
	count := v.Count() + len(b) - len(v.Text) // each byte that came in is a unit
	w.m.Fits(count)
	return heap.Counted(string(b), count)
}

func appendEscape(b []byte, c byte) []byte {
	const digits = "0123456789abcdef"
	if i := strings.IndexByte(strokeUnits, c); i >= 0 {
		return append(b, '\\', strokeLetters[i])
	}
	return append(b, '\\', 'u', '0', '0', digits[c>>4], digits[c&15])
}

func (w *writer) object(o *heap.Object) heap.Value {
	if slices.Contains(w.within, o) {
		panic(w.m.TypeError())
	}
	if len(w.within) >= api.MaxDeep {
		panic(w.m.RangeError())
	}
	if o.Class == heap.Array {
		return w.enclosed(o, "[", w.items(o), "]")
	}
	return w.enclosed(o, "{", w.members(o), "}")
}

// enclosed: the parts of an object, between brackets.
func (w *writer) enclosed(o *heap.Object, begin string, parts iter.Seq[heap.Value], end string) heap.Value {
	var text machine.Text
	outer, ahead := *w, begin
	w.within, w.line = append(w.within, o), w.m.Join(w.line, w.blanks)
	for part := range parts {
		text.Gather(heap.String(ahead), w.line, part)
		ahead = ","
	}
	if ahead == begin {
		text.Gather(heap.String(begin))
	} else {
		text.Gather(outer.line)
	}
	*w = outer
	text.Gather(heap.String(end))
	return text.Whole(w.m)
}

// items of an Array. What is nothing is null.
func (w *writer) items(o *heap.Object) iter.Seq[heap.Value] {
	return func(yield func(heap.Value) bool) {
		for k := range placesOf(w.m, o) {
			v := w.written(o, k)
			if v.Kind == api.Undefined {
				v = heap.String("null")
			}
			if !yield(v) {
				return
			}
		}
	}
}

// members of another object, each with its key. What is nothing is left out.
func (w *writer) members(o *heap.Object) iter.Seq[heap.Value] {
	return func(yield func(heap.Value) bool) {
		for _, k := range w.keys(o) {
			v := w.written(o, k)
			if v.Kind != api.Undefined && !yield(w.member(k, v)) {
				return
			}
		}
	}
}

func (w *writer) member(k heap.Key, v heap.Value) heap.Value {
	var text machine.Text
	colon := ":"
	if w.blanks.Count() > 0 {
		colon = ": "
	}
	text.Add(w.m, w.quoted(heap.String(k.Text())))
	text.Add(w.m, heap.String(colon))
	text.Add(w.m, v)
	return text.Value()
}
