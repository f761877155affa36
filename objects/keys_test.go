package objects

import (
	"slices"
	"strconv"
	"testing"

	"ecmacore/api"
)

// P64
func TestOwnAndFind(t *testing.T) {
	h := New()
	root := made(t, h, "Object", 0)
	middle := made(t, h, "Array", root)
	r := made(t, h, "Object", middle)
	f := made(t, h, "Function", 0)
	defined(t, h, root, "x", all(number(1)))
	defined(t, h, root, "y", flags(functions(f, 0), "E"))
	defined(t, h, root, "0", told(number(2)))
	defined(t, h, middle, "x", told(number(3)))
	defined(t, h, r, "z", all(api.Value{}))
	for _, c := range []struct {
		r    int
		key  string
		who  int
		want api.Desc
	}{
		{r, "z", r, all(api.Value{})},
		{r, "x", middle, flags(told(number(3)), "wec")},
		{root, "x", root, all(number(1))},
		{r, "y", root, flags(functions(f, 0), "Ec")},
		{r, "0", root, flags(told(number(2)), "wec")},
		{r, "length", middle, flags(told(number(0)), "Wec")},
		{root, "length", 0, api.Desc{}},
		{r, "1", 0, api.Desc{}},
		{middle, "z", 0, api.Desc{}},
		{f, "x", 0, api.Desc{}},
		{r, "X", 0, api.Desc{}},
	} {
		d, who, has := h.Find(c.r, c.key)
		if has != (c.who != 0) || who != c.who || d != c.want {
			t.Errorf("Find(%d, %q) = %+v, %d, %v", c.r, c.key, d, who, has)
		}
		e, own := h.Own(c.r, c.key)
		if own != (c.who == c.r) || own && e != c.want || !own && e != (api.Desc{}) {
			t.Errorf("Own(%d, %q) = %+v, %v", c.r, c.key, e, own)
		}
	}
}

// P64
func TestKeysOrder(t *testing.T) {
	h := New()
	r := made(t, h, "Object", 0)
	if h.Keys(r) != nil {
		t.Error("Keys of one without")
	}
	for _, k := range []string{"b", "3", "a", "100", "20", "c", "0", "4294967295", "4294967294"} {
		defined(t, h, r, k, flags(api.Desc{}, "C"))
	}
	keysAre(t, h, r, "0", "3", "20", "100", "4294967294", "b", "a", "c", "4294967295")
	defined(t, h, r, "b", all(number(1)))
	defined(t, h, r, "a", functions(0, 0))
	keysAre(t, h, r, "0", "3", "20", "100", "4294967294", "b", "a", "c", "4294967295")
	for _, k := range []string{"b", "20", "none", "c"} {
		if err := h.Delete(r, k); err != nil {
			t.Error(err)
		}
	}
	keysAre(t, h, r, "0", "3", "100", "4294967294", "a", "4294967295")
	defined(t, h, r, "c", api.Desc{})
	defined(t, h, r, "b", api.Desc{})
	defined(t, h, r, "20", api.Desc{})
	keysAre(t, h, r, "0", "3", "20", "100", "4294967294", "a", "4294967295", "c", "b")
	l := h.Keys(r)
	for i := range l {
		l[i] = "!"
	}
	keysAre(t, h, r, "0", "3", "20", "100", "4294967294", "a", "4294967295", "c", "b")
}

// P64: texts of the same units are one key.
func TestKeyTexts(t *testing.T) {
	h := New()
	r := made(t, h, "Object", 0)
	for i, c := range []struct{ in, out string }{
		{"\xff", "\ufffd"}, {"\x80", "\ufffd"}, {"\ufffd", "\ufffd"},
		{"\xed\xa0\xbd\xed\xb8\x80", "\U0001F600"}, {"\U0001F600", "\U0001F600"},
		{"\xed\xb8\x80\xed\xa0\xbd", "\xed\xb8\x80\xed\xa0\xbd"},
		{"\xed\xa0", "\ufffd\ufffd"}, {"\u00e9", "\u00e9"}, {"e\u0301", "e\u0301"}, {"\x00", "\x00"},
	} {
		defined(t, h, r, c.in, all(number(float64(i))))
		owns(t, h, r, c.out, all(number(float64(i))))
		owns(t, h, r, c.in, all(number(float64(i))))
	}
	keysAre(t, h, r, "\ufffd", "\U0001F600", "\xed\xb8\x80\xed\xa0\xbd", "\ufffd\ufffd", "\u00e9", "e\u0301", "\x00")
	if _, _, has := h.Find(r, "\xfe"); !has {
		t.Error("Find")
	}
	if err := h.Delete(r, "\xfe"); err != nil {
		t.Error(err)
	}
	if _, has := h.Own(r, "\ufffd"); has {
		t.Error("Delete")
	}
}

// P65
func TestDelete(t *testing.T) {
	h := New()
	f := made(t, h, "Function", 0)
	r := made(t, h, "Object", 0)
	q := made(t, h, "Object", r)
	for _, key := range []string{"k", "0", "7"} {
		for _, d := range []api.Desc{all(number(1)), flags(api.Desc{}, "C"), flags(functions(f, f), "C")} {
			defined(t, h, r, key, d)
			if err := h.Delete(q, key); err != nil {
				t.Error(err)
			}
			if _, who, _ := h.Find(q, key); who != r {
				t.Errorf("%q of what stands behind went", key)
			}
			if err := h.Delete(r, key); err != nil {
				t.Error(err)
			}
			if _, has := h.Own(r, key); has || h.Keys(r) != nil {
				t.Errorf("%q is still there", key)
			}
			if err := h.Delete(r, key); err != nil {
				t.Errorf("Delete of what is not there: %v", err)
			}
			defined(t, h, r, key, flags(told(text("again")), "C"))
			owns(t, h, r, key, flags(told(text("again")), "weC"))
			if err := h.Delete(r, key); err != nil {
				t.Error(err)
			}
		}
	}
	for _, key := range []string{"k", "0", "7"} {
		for _, d := range []api.Desc{flags(told(number(1)), "WE"), functions(f, f)} {
			o := made(t, h, "Object", 0)
			defined(t, h, o, key, d)
			if err := h.Delete(o, key); err != api.ErrType {
				t.Errorf("Delete(%q) = %v", key, err)
			}
			keysAre(t, h, o, key)
		}
	}
}

// P65
func TestFix(t *testing.T) {
	h := New()
	r := made(t, h, "Object", 0)
	q := made(t, h, "Object", r)
	defined(t, h, r, "x", all(number(1)))
	defined(t, h, r, "2", all(number(1)))
	if h.Fixed(r) {
		t.Error("Fixed")
	}
	for range 2 {
		if err := h.Fix(r); err != nil || !h.Fixed(r) || h.Fixed(q) {
			t.Errorf("Fix: %v", err)
		}
	}
	refused(t, h, r, "y", all(number(1)), api.ErrType)
	refused(t, h, r, "y", api.Desc{}, api.ErrType)
	refused(t, h, r, "3", all(number(1)), api.ErrType)
	refused(t, h, r, "1", all(number(1)), api.ErrType)
	defined(t, h, r, "x", functions(0, q))
	defined(t, h, r, "2", flags(told(number(7)), "w"))
	defined(t, h, q, "y", all(number(1)))
	for _, key := range []string{"x", "2"} {
		if err := h.Delete(r, key); err != nil {
			t.Error(err)
		}
		refused(t, h, r, key, all(number(1)), api.ErrType)
	}
}

// Many keys come and go, in time that does not grow with their square.
func TestManyKeys(t *testing.T) {
	const many = 50000
	h := New()
	r := made(t, h, "Object", 0)
	q := made(t, h, "Object", 0)
	for i := range many {
		key := "k" + strconv.Itoa(i)
		defined(t, h, r, key, all(number(float64(i))))
		defined(t, h, q, key, all(number(0)))
	}
	if !h.Same(r, q) {
		t.Error("many keys are not one shape")
	}
	var want []string
	for i := range many {
		key := "k" + strconv.Itoa(i)
		if i%10 == 3 {
			want = append(want, key)
		} else if err := h.Delete(r, key); err != nil {
			t.Fatal(err)
		}
	}
	keysAre(t, h, r, want...)
	owns(t, h, r, "k13", all(number(13)))
	defined(t, h, r, "k0", all(number(0)))
	keysAre(t, h, r, append(slices.Clone(want), "k0")...)
	if l := h.Keys(q); len(l) != many || l[many-1] != "k"+strconv.Itoa(many-1) {
		t.Error("what shared its shape has lost keys")
	}
}

// Many places, from the lowest and from the highest on, and a length that becomes less by one again and again.
func TestManyPlaces(t *testing.T) {
	const many = 20000
	h := New()
	a, b := made(t, h, "Array", 0), made(t, h, "Array", 0)
	for i := range many {
		defined(t, h, a, strconv.Itoa(i), all(number(float64(i))))
		defined(t, h, b, strconv.Itoa(many-i), all(number(float64(many-i))))
	}
	lengthIs(t, h, a, many, "Wec")
	lengthIs(t, h, b, many+1, "Wec")
	for n := many - 1; n >= 10; n-- {
		defined(t, h, a, "length", told(number(float64(n))))
		defined(t, h, b, "length", told(number(float64(n))))
	}
	keysAre(t, h, a, "0", "1", "2", "3", "4", "5", "6", "7", "8", "9", "length")
	keysAre(t, h, b, "1", "2", "3", "4", "5", "6", "7", "8", "9", "length")
	owns(t, h, b, "9", all(number(9)))
}
