package heap

import (
	"math"
	"math/rand"
	"slices"
	"strconv"
	"testing"

	"ecmacore/api"
)

func number(x float64) Value { return Value{Kind: api.Number, Num: x} }

func assigned(v Value) Told {
	return Told{Property: Property{Traits: AllFlags(), Value: v}, HasValue: true, HasWritable: true, HasEnumerable: true, HasConfigurable: true}
}

func put(t *testing.T, o *Object, key string, v Value) {
	t.Helper()
	if err := o.Define(KeyOf(key), assigned(v)); err != nil {
		t.Fatal(err)
	}
}

// holds is what is held by a list.
type holds struct {
	objects []*Object
	shapes  []*Shape
}

func (l holds) Hold(m *Marker) {
	for _, o := range l.objects {
		m.Object(o)
	}
	for _, s := range l.shapes {
		m.Shape(s)
	}
}

func TestKeys(t *testing.T) {
	for _, text := range []string{"0", "7", "10", "4294967294"} {
		if k := KeyOf(text); !k.IsPlace || k.Text() != text || k.Name != "" {
			t.Errorf("KeyOf(%q) = %+v", text, k)
		}
	}
	for _, text := range []string{"", "00", "-1", "4294967295", "18446744073709551617", "1 ", "a"} {
		if k := KeyOf(text); k != (Key{Name: text}) || k.Text() != text {
			t.Errorf("KeyOf(%q) = %+v", text, k)
		}
	}
}

func TestSame(t *testing.T) {
	h := New()
	o := h.Make("Object", nil)
	values := []Value{{}, {Kind: api.Null}, {Kind: api.Boolean}, number(0), number(math.Copysign(0, -1)), number(math.NaN()), {Kind: api.String}, {Kind: api.String, Text: "0"}, {Kind: api.Object, Ref: o}, {Kind: api.Object, Ref: h.Make("Object", nil)}}
	for i, v := range values {
		for j, w := range values {
			if Same(v, w) != (i == j) {
				t.Errorf("Same(%+v, %+v)", v, w)
			}
		}
	}
}

// What an object holds beside its properties is kept, as long as the object is.
func TestInner(t *testing.T) {
	h := New()
	f, variable, nobody := h.Make("Function", nil), h.Make("Object", nil), h.Make("Object", nil)
	far := h.Make("Object", nil)
	put(t, variable, "x", Value{Kind: api.Object, Ref: far})
	far.Inner = holds{objects: []*Object{f, nil}} // in a round, and nothing
	f.Inner = holds{objects: []*Object{variable}}
	if n := h.Collect(holds{objects: []*Object{f}}); n != 1 || h.Numbered(nobody.Number()) != nil || h.Numbered(far.Number()) != far {
		t.Errorf("Collect = %d", n)
	}
	f.Inner = nil
	if n := h.Collect(holds{objects: []*Object{f}}); n != 2 || h.Live() != 1 {
		t.Errorf("Collect = %d", n)
	}
}

// Shapes that no object has go, with their names; those that somebody remembers stay.
// shared is what many hold.
type shared struct {
	met, gone int // the mark; how often it was gone through
}

func (s *shared) Hold(m *Marker) {
	if m.First(&s.met) {
		s.gone++
	}
}

// A mark is new to each collection once.
func TestFirst(t *testing.T) {
	h := New()
	s, other := &shared{}, &shared{}
	var l holds
	for range 5 {
		o := h.Make("Object", nil)
		o.Inner = s
		l.objects = append(l.objects, o)
	}
	l.objects[4].Inner = other
	for i := range 3 {
		h.Collect(l)
		if s.gone != i+1 || other.gone != i+1 {
			t.Errorf("collection %d: gone through %d and %d times", i, s.gone, other.gone)
		}
	}
}

func TestShapesGo(t *testing.T) {
	h := New()
	build := func(keys ...string) *Object {
		o := h.Make("Object", nil)
		for _, key := range keys {
			put(t, o, key, number(1))
		}
		return o
	}
	short, long := build("a"), build("a", "b", "c")
	build("a", "x", "y")
	if n := h.Collect(holds{objects: []*Object{short}}); n != 2 {
		t.Fatalf("Collect = %d", n)
	}
	if len(short.shape.next) != 0 || len(short.shape.names.list) != 1 || len(short.shape.names.at) != 1 {
		t.Errorf("names are left: %q", short.shape.names.list)
	}
	again := build("a", "b", "c")
	if again.shape == long.shape || again.shape.names != short.shape.names {
		t.Error("the names that are cut cannot be shared anew")
	}
	remembered := again.shape
	h.Collect(holds{shapes: []*Shape{remembered}})
	if build("a", "b", "c").shape != remembered {
		t.Error("a shape that is held is gone")
	}
	h.Collect(holds{})
	if len(h.first.next) != 0 || len(h.first.names.list) != 0 || len(h.first.names.at) != 0 || h.Live() != 0 {
		t.Error("something is left")
	}
}

// A shape that nobody shares is another behind each change: who remembers it must not take the new one for it.
func TestShapesApart(t *testing.T) {
	h := New()
	o := h.Make("Object", nil)
	for _, key := range []string{"a", "b", "c"} {
		put(t, o, key, number(1))
	}
	seen := []*Shape{o.shape}
	change := func(what string, f func() error) {
		if err := f(); err != nil {
			t.Error(err)
		}
		if slices.Contains(seen, o.shape) {
			t.Errorf("%s left the shape as it was", what)
		}
		seen = append(seen, o.shape)
	}
	change("a turn", func() error { return o.Define(Key{Name: "a"}, Told{HasEnumerable: true}) })
	change("a turn back", func() error { return o.Define(Key{Name: "a"}, assigned(number(1))) })
	change("what went", func() error { return o.Delete(Key{Name: "b"}) })
	change("what came", func() error { return o.Define(Key{Name: "d"}, Told{}) })
	last := o.shape
	put(t, o, "a", number(2))
	put(t, o, "7", number(2))
	if err := o.Delete(KeyOf("7")); err != nil || o.shape != last {
		t.Error("values and places change the shape")
	}
}

// shapesHold: all that the heap's shapes must be, whatever was done.
func shapesHold(t *testing.T, h *Heap) {
	work := []*Shape{h.first}
	for len(work) > 0 {
		s := work[0]
		work = work[1:]
		if s.kept || s.alone || s.names.kept != 0 || len(s.names.list) != len(s.names.at) || s.count > len(s.names.list) {
			t.Fatalf("a shape: %+v", s)
		}
		for step, next := range s.next {
			if next.from != s || next.count != s.count+1 || next.names.list[s.count] != step.Name || !slices.Equal(next.names.list[:s.count], s.names.list[:s.count]) {
				t.Fatalf("a step: %+v", step)
			}
			work = append(work, next)
		}
	}
}

func objectHolds(t *testing.T, o *Object) {
	if len(o.named) != o.shape.count || o.kept {
		t.Fatalf("%d properties, %d names", len(o.named), o.shape.count)
	}
	if len(o.row) > 0 && o.row[len(o.row)-1].Kind == noValue && len(o.strewn) == 0 {
		t.Fatal("a row with nothing at its end")
	}
	for n := range o.strewn {
		if int(n) < len(o.row) && o.row[n].Kind != noValue {
			t.Fatalf("place %d stands twice", n)
		}
	}
	if n := len(o.shape.names.list); o.shape.alone && n > 2*len(o.shape.names.at)+8 {
		t.Fatalf("%d names, most of them gaps", n)
	}
}

func TestWhateverIsDone(t *testing.T) {
	for seed := range int64(200) {
		r := rand.New(rand.NewSource(seed))
		h := New()
		var all []*Object
		for range 400 {
			if len(all) == 0 || r.Intn(10) == 0 {
				all = append(all, h.Make([]string{"Array", "Object"}[r.Intn(2)], nil))
			}
			o := all[r.Intn(len(all))]
			key := strconv.Itoa(r.Intn(30))
			if r.Intn(2) == 0 {
				key = "k" + key[:1]
			}
			switch r.Intn(8) {
			case 0, 1:
				_ = o.Delete(KeyOf(key))
			case 2:
				_ = o.Define(KeyOf(key), Told{Property: Property{Traits: Traits{Configurable: r.Intn(4) > 0}}, HasConfigurable: true})
			case 3:
				_ = o.Define(Key{Name: "length"}, Told{Property: Property{Value: number(float64(r.Intn(30)))}, HasValue: true})
			case 4:
				if r.Intn(10) == 0 {
					all = all[r.Intn(len(all)):]
					h.Collect(holds{objects: all})
				}
			default:
				_ = o.Define(KeyOf(key), assigned(number(1)))
			}
			objectHolds(t, o)
		}
		shapesHold(t, h)
	}
}

// A row takes in what was strewn, from whichever end it is filled, and what is cut from it is let go.
func TestRows(t *testing.T) {
	h := New()
	a := h.Make("Array", nil)
	for _, n := range []int{3, 5, 1, 2, 0} {
		put(t, a, strconv.Itoa(n), number(float64(n)))
	}
	if len(a.row) != 4 || len(a.strewn) != 1 {
		t.Errorf("a row of %d, and %d strewn", len(a.row), len(a.strewn))
	}
	put(t, a, "4", number(4))
	if len(a.row) != 6 || len(a.strewn) != 0 {
		t.Errorf("a row of %d, and %d strewn", len(a.row), len(a.strewn))
	}
	put(t, a, "5", Value{Kind: api.Object, Ref: a})
	for _, cut := range []func() error{
		func() error { return a.Delete(KeyOf("5")) },
		func() error {
			return a.Define(Key{Name: "length"}, Told{Property: Property{Value: number(2)}, HasValue: true})
		},
	} {
		if err := cut(); err != nil {
			t.Error(err)
		}
		if rest := a.row[len(a.row):cap(a.row)]; slices.ContainsFunc(rest, func(v Value) bool { return v != Value{} }) {
			t.Errorf("what is cut is held: %+v", rest)
		}
	}
	if len(a.row) != 2 || a.named[0].Value.Num != 2 {
		t.Errorf("a row of %d", len(a.row))
	}
}

// Names that go leave gaps, and these are closed when they are most.
func TestGapsClose(t *testing.T) {
	h := New()
	o := h.Make("Object", nil)
	put(t, o, "stays", number(7))
	for range 100 {
		put(t, o, "comes and goes", number(1))
		if err := o.Delete(Key{Name: "comes and goes"}); err != nil {
			t.Error(err)
		}
		if n := len(o.shape.names.list); n > 12 || len(o.named) != n {
			t.Fatalf("%d names for one, and %d properties", n, len(o.named))
		}
	}
	if p, has := o.Own(Key{Name: "stays"}); !has || p.Value != number(7) || len(o.Keys()) != 1 {
		t.Errorf("%+v", p)
	}
}

func TestAllFlags(t *testing.T) {
	if AllFlags() != (Traits{Writable: true, Enumerable: true, Configurable: true}) {
		t.Error("AllFlags")
	}
}
