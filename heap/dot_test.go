package heap

import (
	"fmt"
	"math/rand"
	"testing"

	"ecmacore/api"
)

// of: an object with these names, each with a value.
func of(t *testing.T, h *Heap, proto *Object, names ...string) *Object {
	t.Helper()
	o := h.Make("Object", proto)
	for i, name := range names {
		put(t, o, name, number(float64(i)))
	}
	return o
}

// finds: the dot finds what the object has, and knew it, or not.
func finds(t *testing.T, what string, d *Dot, o *Object, known bool) {
	t.Helper()
	want, holder, _ := o.Find(Key{Name: d.Name})
	if p, who, knew := d.Find(o); p != want || who != holder || knew != known {
		t.Errorf("%s: %+v, known: %v", what, p, knew)
	}
}

// P123: the first time, and behind an object of another shape, nothing is known; then it is.
func TestDotOwn(t *testing.T) {
	h := New()
	for _, d := range []*Dot{{Name: "x"}, {Name: "x", Writes: true}} {
		finds(t, "the first", d, of(t, h, nil, "x"), false)
		finds(t, "the second", d, of(t, h, nil, "x"), true)
		finds(t, "with another behind it", d, of(t, h, of(t, h, nil, "x"), "x"), true)
		finds(t, "another shape", d, of(t, h, nil, "y", "x"), false)
		finds(t, "it again", d, of(t, h, nil, "y", "x"), true)
		finds(t, "the first shape", d, of(t, h, nil, "x"), false)
		finds(t, "without it", d, of(t, h, nil, "y"), false)
		finds(t, "without it again", d, of(t, h, nil, "y"), false)
		turned := of(t, h, nil, "x")
		if err := turned.Define(Key{Name: "x"}, Told{HasWritable: true}); err != nil {
			t.Error(err)
		}
		finds(t, "a flag turned", d, turned, false)
		finds(t, "a shape that no other has", d, turned, false)
		finds(t, "what it met is forgotten", d, of(t, h, nil, "x"), false)
		array := h.Make(Array, nil)
		length := &Dot{Name: "length", Writes: d.Writes}
		finds(t, "an Array", length, array, false)
		put(t, array, "7", number(1))
		finds(t, "places do not matter", length, array, true)
	}
}

// P123: what stands right behind is known, where it is read.
func TestDotBehind(t *testing.T) {
	h := New()
	far := of(t, h, nil, "far")
	behind := of(t, h, far, "y", "x")
	other := of(t, h, far, "y", "x")
	d := &Dot{Name: "x"}
	finds(t, "the first", d, of(t, h, behind, "a"), false)
	finds(t, "the second", d, of(t, h, behind, "a"), true)
	finds(t, "another behind it", d, of(t, h, other, "a"), false)
	finds(t, "nothing behind it", d, of(t, h, nil, "a"), false)
	finds(t, "the first behind it", d, of(t, h, behind, "a"), false)
	put(t, behind, "x", number(9))
	finds(t, "another value", d, of(t, h, behind, "a"), true)
	put(t, behind, "z", number(9))
	finds(t, "more behind it", d, of(t, h, behind, "a"), true)
	if err := behind.Delete(Key{Name: "y"}); err != nil {
		t.Error(err)
	}
	finds(t, "less behind it", d, of(t, h, behind, "a"), true)
	if err := behind.Delete(Key{Name: "x"}); err != nil {
		t.Error(err)
	}
	finds(t, "it is gone", d, of(t, h, behind, "a"), false)
	put(t, behind, "x", number(9))
	finds(t, "it came back", d, of(t, h, behind, "a"), false)
	finds(t, "it stays", d, of(t, h, behind, "a"), true)
	finds(t, "something stands in front", d, of(t, h, behind, "a", "x"), false)
	writes := &Dot{Name: "x", Writes: true}
	further := &Dot{Name: "far"}
	for range 3 {
		finds(t, "to be written", writes, of(t, h, behind, "a"), false)
		finds(t, "further behind", further, of(t, h, behind, "a"), false)
	}
}

// What stands behind can come to stand elsewhere there, with another where it stood.
func TestDotMoved(t *testing.T) {
	h := New()
	behind := h.Make("Object", nil)
	for i := range 30 {
		put(t, behind, fmt.Sprint("k", i), number(float64(i)))
	}
	d := &Dot{Name: "k29"}
	finds(t, "the first", d, of(t, h, behind), false)
	for i := range 29 {
		if err := behind.Delete(Key{Name: fmt.Sprint("k", i)}); err != nil {
			t.Error(err)
		}
	}
	for i := range 50 {
		put(t, behind, fmt.Sprint("new", i), number(-1))
	}
	finds(t, "it moved", d, of(t, h, behind), false)
	finds(t, "it stays", d, of(t, h, behind), true)
}

// What a dot remembers is known when all objects that it met are gone; and it holds none of them.
func TestDotHolds(t *testing.T) {
	h := New()
	d := &Dot{Name: "x"}
	behind := of(t, h, nil, "x")
	finds(t, "the first", d, of(t, h, behind, "a", "b", "c"), false)
	if n := h.Collect(d); n != 2 {
		t.Errorf("Collect = %d", n)
	}
	finds(t, "another behind it", d, of(t, h, of(t, h, nil, "x"), "a", "b", "c"), false)
	finds(t, "itself", d, of(t, h, nil, "x", "y"), false)
	for range 3 {
		h.Collect(d)
		finds(t, "the shape again", d, of(t, h, nil, "x", "y"), true)
	}
	h.Collect(holds{})
	if len(h.first.next) != 0 {
		t.Error("shapes are left that nobody remembers")
	}
}

// shapeText: what P67 says that a shape is; "": none that another has.
func shapeText(o *Object) string {
	if !o.Alike(o) {
		return ""
	}
	text := "names"
	for _, k := range o.Keys() {
		if p, _ := o.Own(k); !k.IsPlace {
			text += fmt.Sprint(" ", k.Name, p.Traits)
		}
	}
	return text
}

// watcher: a dot, and what it must remember.
type watcher struct {
	*Dot
	shape  string
	behind *Object
	turn   *Shape // of the one behind
}

func (w *watcher) find(t *testing.T, o *Object) {
	want, holder, _ := o.Find(Key{Name: w.Name})
	was := *w
	w.shape, w.behind, w.turn = "", nil, nil
	p, who, known := w.Find(o)
	if p != want || who != holder {
		t.Fatalf("found %+v, want %+v", p, want)
	}
	if who == o || who != nil && who == o.Proto && !w.Writes {
		w.shape = shapeText(o)
	}
	if who != nil && who != o {
		w.behind, w.turn = who, who.shape
	}
	may := was.shape != "" && was.shape == w.shape && was.behind == w.behind
	if must := may && was.turn == w.turn; known && !may || !known && must {
		t.Fatalf("%+v: known: %v, before %+v", w, known, was)
	}
}

// Whatever is done to objects and to what stands behind them, a dot finds what the object does, and knows neither more nor less than it met.
func TestDotsWhateverIsDone(t *testing.T) {
	for seed := range int64(300) {
		r := rand.New(rand.NewSource(seed))
		h := New()
		name := func() string { return []string{"a", "b", "length"}[r.Intn(3)] }
		all := []*Object{h.Make("Object", nil)}
		var dots []*watcher
		for i := range 6 {
			dots = append(dots, &watcher{Dot: &Dot{Name: name(), Writes: i%3 == 0}})
		}
		for range 500 {
			o := all[r.Intn(len(all))]
			switch k := (Key{Name: name()}); r.Intn(9) {
			case 0:
				all = append(all, h.Make([]string{"Array", "Object"}[r.Intn(2)], o))
			case 1:
				_ = o.Delete(k)
			case 2:
				_ = o.Define(k, Told{HasWritable: true, HasConfigurable: true, Property: Property{Traits: Traits{Writable: r.Intn(2) == 0, Configurable: r.Intn(9) > 0}}})
			case 3:
				_ = o.Define(k, Told{HasGet: true, Property: Property{Get: o}})
			case 4, 5:
				_ = o.Define(k, assigned(Value{Kind: api.Number, Num: float64(r.Intn(9))}))
			case 6:
				if r.Intn(20) == 0 {
					all = all[r.Intn(len(all)):]
					l := listed{holds{objects: all}}
					for _, d := range dots {
						l = append(l, d)
					}
					h.Collect(l)
				}
			}
			dots[r.Intn(len(dots))].find(t, all[r.Intn(len(all))])
		}
		shapesHold(t, h)
	}
}

// listed: all that several hold.
type listed []Holder

func (l listed) Hold(m *Marker) {
	for _, k := range l {
		k.Hold(m)
	}
}

// Shapes are gone through so seldom that it pays, and yet none is left for long that no object has.
func TestShapesSeldom(t *testing.T) {
	h := New()
	keep := h.Make("Object", nil)
	for i := range 1000 {
		put(t, keep, fmt.Sprint("k", i), number(1))
	}
	h.Collect(holds{objects: []*Object{keep}})
	for round := range 20 {
		for i := range 100 {
			of(t, h, nil, fmt.Sprint("free", round, "of", i))
		}
		h.Collect(holds{objects: []*Object{keep}})
		if n := len(h.first.next); n > 201 {
			t.Fatalf("%d shapes", n)
		}
	}
	if h.Effort() < 1000 || h.Effort() > 5000 {
		t.Errorf("Effort = %d", h.Effort())
	}
}
