package heap

import (
	"slices"
	"testing"

	"ecmacore/api"
)

func boxed(h *Heap, text string) *Object {
	o := h.Make("String", nil)
	o.Inner = &Boxed{Value: String(text)}
	return o
}

func texts(keys []Key) []string {
	var l []string
	for _, k := range keys {
		l = append(l, k.Text())
	}
	return l
}

// P70: the units of a String's string are properties of the object: places that cannot be changed, the first of its keys.
func TestUnitsAreProperties(t *testing.T) {
	o := boxed(New(), "a\U0001F600")
	put(t, o, "x", number(1))
	put(t, o, "7", number(2))
	put(t, o, "3", number(3))
	if got, want := texts(o.Keys()), []string{"0", "1", "2", "3", "7", "x"}; !slices.Equal(got, want) {
		t.Errorf("keys %q", got)
	}
	for i, text := range []string{"a", "\xed\xa0\xbd", "\xed\xb8\x80"} {
		want := Property{Traits: Traits{Enumerable: true}, Value: String(text)}
		if p, has := o.Own(KeyOf(string(rune('0' + i)))); !has || p != want {
			t.Errorf("unit %d: %+v", i, p)
		}
	}
	if _, has := o.Own(KeyOf("4")); has {
		t.Error("it has a unit too many")
	}
	if p, who, has := o.Find(KeyOf("1")); !has || who != o || p.Writable {
		t.Errorf("Find: %+v", p)
	}
}

// P70: what is told of a unit can be no other.
func TestUnitsStay(t *testing.T) {
	o := boxed(New(), "ab")
	k := KeyOf("1")
	is, _ := o.Own(k)
	for _, c := range []struct {
		told Told
		ok   bool
	}{
		{Told{}, true},
		{ValueAlone(String("b")), true},
		{Whole(String("b"), Traits{Enumerable: true}), true},
		{ValueAlone(String("c")), false},
		{Whole(String("b"), AllFlags()), false},
		{Told{HasEnumerable: true}, false},
		{Told{HasWritable: true}, true},
		{Told{HasConfigurable: true}, true},
		{Told{Property: Property{Traits: Traits{Writable: true}}, HasWritable: true}, false},
		{Told{HasGet: true}, false},
	} {
		if err := o.Define(k, c.told); (err == nil) != c.ok {
			t.Errorf("%+v: %v", c.told, err)
		}
		if p, _ := o.Own(k); p != is || len(o.Keys()) != 2 {
			t.Errorf("%+v: it became %+v", c.told, p)
		}
	}
	if o.Delete(k) != api.ErrType || o.Delete(KeyOf("2")) != nil {
		t.Error("Delete")
	}
	o.Fixed = true
	if o.Define(KeyOf("2"), ValueAlone(number(1))) != api.ErrType || o.Define(k, Told{}) != nil {
		t.Error("fixed")
	}
}

// Numbers and Booleans have none, and nothing in a box is collected or keeps another.
func TestOtherBoxes(t *testing.T) {
	h := New()
	for _, v := range []Value{Number(2), Boolean(true), String("")} {
		o := h.Make("Number", nil)
		o.Inner = &Boxed{Value: v}
		if len(o.Keys()) != 0 {
			t.Errorf("%+v: keys %q", v, texts(o.Keys()))
		}
		if _, has := o.Own(KeyOf("0")); has {
			t.Errorf("%+v has a unit", v)
		}
		put(t, o, "0", number(1))
		if h.Collect(holds{objects: []*Object{o}}) > 1 || len(o.Keys()) != 1 {
			t.Errorf("%+v: Collect", v)
		}
	}
}

// Values that are === are equal structs, however they were made.
func TestValues(t *testing.T) {
	if Counted("a\U0001F600", 3) != String("a\U0001F600") || String("a").Unit(0) != String("a") || String("\u00e9a").Unit(1) != String("a") {
		t.Error("strings")
	}
	if Number(0) != Number(-1*0) || Boolean(false) == Number(0) || Null() == (Value{}) || Boolean(true) != Boolean(true) {
		t.Error("others")
	}
}
