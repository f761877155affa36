package objects

import (
	"errors"
	"math"
	"slices"
	"strconv"
	"testing"

	"ecmacore/api"
)

func number(x float64) api.Value { return api.Value{Kind: api.Number, Num: x} }

func text(s string) api.Value { return api.Value{Kind: api.String, Text: s} }

func object(r int) api.Value { return api.Value{Kind: api.Object, Ref: r} }

// told: a value alone.
func told(v api.Value) api.Desc { return api.Desc{HasValue: true, Value: v} }

// flags: w, e, c and their capitals: Writable, Enumerable, Configurable told false, and true.
func flags(d api.Desc, letters string) api.Desc {
	for _, c := range letters {
		switch c {
		case 'w', 'W':
			d.HasWritable, d.Writable = true, c == 'W'
		case 'e', 'E':
			d.HasEnumerable, d.Enumerable = true, c == 'E'
		case 'c', 'C':
			d.HasConfigurable, d.Configurable = true, c == 'C'
		}
	}
	return d
}

// all: a value and all flags.
func all(v api.Value) api.Desc { return flags(told(v), "WEC") }

func functions(get, set int) api.Desc {
	return api.Desc{HasGet: true, Get: get, HasSet: true, Set: set}
}

func made(t *testing.T, h *Heap, class string, proto int) int {
	t.Helper()
	r, err := h.Make(class, proto)
	if err != nil || r <= 0 || !h.Has(r) {
		t.Fatalf("Make(%q, %d) = %d, %v", class, proto, r, err)
	}
	return r
}

func defined(t *testing.T, h *Heap, r int, key string, d api.Desc) {
	t.Helper()
	if err := h.Define(r, key, d); err != nil {
		t.Fatalf("Define(%d, %q, %+v): %v", r, key, d, err)
	}
}

func refused(t *testing.T, h *Heap, r int, key string, d api.Desc, want api.Errno) {
	t.Helper()
	before, had := h.Own(r, key)
	keys := h.Keys(r)
	if err := h.Define(r, key, d); !errors.Is(err, want) {
		t.Errorf("Define(%d, %q, %+v): %v, want %v", r, key, d, err, want)
	}
	if after, has := h.Own(r, key); has != had || !sameDesc(after, before) || !slices.Equal(h.Keys(r), keys) {
		t.Errorf("Define(%d, %q, %+v) changed what it refused: %+v, %+v", r, key, d, before, after)
	}
}

// sameDesc: NaN is the same as NaN, and 0 is not the same as -0.
func sameDesc(a, b api.Desc) bool {
	if math.Float64bits(a.Value.Num) != math.Float64bits(b.Value.Num) && !(math.IsNaN(a.Value.Num) && math.IsNaN(b.Value.Num)) {
		return false
	}
	a.Value.Num, b.Value.Num = 0, 0
	return a == b
}

func owns(t *testing.T, h *Heap, r int, key string, want api.Desc) {
	t.Helper()
	if d, has := h.Own(r, key); !has || !sameDesc(d, want) {
		t.Errorf("Own(%d, %q) = %+v, %v; want %+v", r, key, d, has, want)
	}
}

func keysAre(t *testing.T, h *Heap, r int, want ...string) {
	t.Helper()
	if l := h.Keys(r); !slices.Equal(l, want) {
		t.Errorf("Keys(%d) = %q, want %q", r, l, want)
	}
}

// P60
func TestMake(t *testing.T) {
	h := New()
	if h.Live() != 0 || h.Has(1) || h.Has(0) {
		t.Error("a new one has objects")
	}
	seen := map[int]bool{}
	behind := 0
	for i, class := range []string{"Object", "", "Function", "Array", "no class \xff", "Array"} {
		r := made(t, h, class, behind)
		if seen[r] || h.Live() != i+1 {
			t.Errorf("Make = %d, the %dth of %d", r, i, h.Live())
		}
		seen[r], behind = true, r
	}
	for _, proto := range []int{-1, 7, 1000, math.MaxInt, math.MinInt} {
		if r, err := h.Make("Object", proto); r != 0 || err != api.ErrType {
			t.Errorf("Make behind %d: %d, %v", proto, r, err)
		}
	}
	if h.Live() != 6 {
		t.Errorf("Live = %d behind what was refused", h.Live())
	}
}

// P60
func TestMakeArray(t *testing.T) {
	h := New()
	a := made(t, h, "Array", 0)
	owns(t, h, a, "length", flags(told(number(0)), "Wec"))
	keysAre(t, h, a, "length")
	for _, class := range []string{"array", "Array ", "Object", "", "String"} {
		o := made(t, h, class, a)
		if _, has := h.Own(o, "length"); has || h.Keys(o) != nil {
			t.Errorf("one of the class %q has a length", class)
		}
		defined(t, h, o, "7", all(number(1)))
		keysAre(t, h, o, "7")
	}
}

// P60: numbers of objects that are gone are no object's.
func TestMakeAgain(t *testing.T) {
	h := New()
	keep := made(t, h, "Object", 0)
	gone := made(t, h, "Object", 0)
	h.Collect([]int{keep})
	if h.Has(gone) || !h.Has(keep) || h.Live() != 1 {
		t.Fatal("Collect")
	}
	if r := made(t, h, "Object", 0); r == keep || h.Live() != 2 {
		t.Errorf("Make = %d", r)
	}
}

// P61
func TestPlaces(t *testing.T) {
	places := []string{"0", "1", "9", "10", "99", "1000000", "4294967293", "4294967294"}
	others := []string{"", "00", "01", "-0", "-1", "+1", "1.0", "1e3", " 1", "1 ", "4294967295", "4294967296", "10000000000", "18446744073709551616", "18446744073709551617", "0x1", "\u0661", "1\x00", "a", "Infinity", "/", ":"}
	h := New()
	r := made(t, h, "Object", 0)
	want := slices.Concat(places, others)
	for _, k := range slices.Backward(places) {
		defined(t, h, r, k, told(number(0)))
	}
	for _, k := range others {
		defined(t, h, r, k, told(number(0)))
	}
	keysAre(t, h, r, want...)
	for _, k := range places {
		a := made(t, h, "Array", 0)
		defined(t, h, a, k, told(number(0)))
		n, _ := strconv.ParseFloat(k, 64)
		owns(t, h, a, "length", flags(told(number(n+1)), "Wec"))
	}
	for _, k := range others {
		a := made(t, h, "Array", 0)
		defined(t, h, a, k, told(number(0)))
		owns(t, h, a, "length", flags(told(number(0)), "Wec"))
	}
}

// P61
func TestValues(t *testing.T) {
	h := New()
	r := made(t, h, "Object", 0)
	q := made(t, h, "Object", 0)
	for _, c := range []struct{ in, out api.Value }{
		{api.Value{Kind: api.Undefined, Num: 1, Text: "x", Ref: 99}, api.Value{}},
		{api.Value{Kind: api.Null, Num: math.NaN(), Text: "x", Ref: -1}, api.Value{Kind: api.Null}},
		{api.Value{Kind: api.Boolean, Num: 0, Text: "x", Ref: 99}, api.Value{Kind: api.Boolean}},
		{api.Value{Kind: api.Boolean, Num: math.Copysign(0, -1)}, api.Value{Kind: api.Boolean}},
		{api.Value{Kind: api.Boolean, Num: -5}, api.Value{Kind: api.Boolean, Num: 1}},
		{api.Value{Kind: api.Boolean, Num: math.NaN()}, api.Value{Kind: api.Boolean, Num: 1}},
		{api.Value{Kind: api.Boolean, Num: 5e-324}, api.Value{Kind: api.Boolean, Num: 1}},
		{api.Value{Kind: api.Number, Num: math.Copysign(0, -1), Text: "x", Ref: 99}, number(math.Copysign(0, -1))},
		{api.Value{Kind: api.Number, Num: math.NaN()}, number(math.NaN())},
		{api.Value{Kind: api.Number, Num: math.Inf(-1)}, number(math.Inf(-1))},
		{api.Value{Kind: api.String, Num: 5, Text: "x\xff", Ref: 99}, text("x\ufffd")},
		{text("\xed\xa0\xbd\xed\xb8\x80\xed\xa0\xbd"), text("\U0001F600\xed\xa0\xbd")},
		{text(""), text("")},
		{api.Value{Kind: api.Object, Num: 5, Text: "x", Ref: q}, object(q)},
		{object(r), object(r)},
	} {
		for _, key := range []string{"x", "3", "4294967294"} {
			defined(t, h, r, key, all(c.in))
			owns(t, h, r, key, all(c.out))
		}
		key := "not writable " + strconv.Itoa(c.in.Kind) + c.out.Text + strconv.FormatFloat(c.in.Num, 'g', -1, 64)
		defined(t, h, r, key, told(c.in))
		defined(t, h, r, key, told(c.out))
	}
}

// P61: a number that is no object.
func TestNoObject(t *testing.T) {
	h := New()
	made(t, h, "Array", 0)
	for _, r := range []int{0, -1, 2, 1 << 32, 1<<32 + 1, math.MaxInt, math.MinInt} {
		for _, err := range []error{h.Define(r, "x", all(number(1))), h.Define(r, "length", told(text(""))), h.Delete(r, "x"), h.Fix(r)} {
			if err != api.ErrType {
				t.Errorf("of %d: %v", r, err)
			}
		}
		d, has := h.Own(r, "length")
		e, who, found := h.Find(r, "length")
		if has || found || who != 0 || d != (api.Desc{}) || e != (api.Desc{}) {
			t.Errorf("of %d: %+v, %+v, %d", r, d, e, who)
		}
		if h.Has(r) || h.Fixed(r) || h.Same(r, r) || h.Same(r, 1) || h.Same(1, r) || h.Keys(r) != nil {
			t.Errorf("of %d", r)
		}
	}
	if h.Live() != 1 {
		t.Error("something was made")
	}
}

// P62: what is wrong whatever the object has.
func TestDefineWrong(t *testing.T) {
	h := New()
	r := made(t, h, "Object", 0)
	for _, key := range []string{"x", "1"} {
		for range 2 { // of a property that is not there, and of one
			for _, kind := range []int{-1, 6, 7, math.MaxInt, math.MinInt} {
				refused(t, h, r, key, all(api.Value{Kind: kind}), api.ErrType)
			}
			for _, ref := range []int{0, -1, 2, math.MaxInt} {
				refused(t, h, r, key, told(object(ref)), api.ErrType)
				if ref != 0 {
					refused(t, h, r, key, api.Desc{HasGet: true, Get: ref}, api.ErrType)
					refused(t, h, r, key, api.Desc{HasSet: true, Set: ref}, api.ErrType)
				}
			}
			for _, d := range []api.Desc{{HasGet: true}, {HasSet: true}, {HasGet: true, Get: r}, {HasGet: true, HasSet: true}} {
				with := d
				with.HasValue = true
				refused(t, h, r, key, with, api.ErrType)
				refused(t, h, r, key, flags(d, "W"), api.ErrType)
				refused(t, h, r, key, flags(d, "w"), api.ErrType)
			}
			defined(t, h, r, key, all(number(1)))
		}
		// What is not told counts for nothing.
		defined(t, h, r, key, api.Desc{Value: api.Value{Kind: 9}, Get: 99, Set: -1, Writable: false})
		owns(t, h, r, key, all(number(1)))
		defined(t, h, r, key, api.Desc{HasSet: true, Value: api.Value{Kind: 9}, Get: 99, Writable: true})
		owns(t, h, r, key, flags(functions(0, 0), "EC"))
	}
}

// P62: a property that was not there.
func TestDefineNew(t *testing.T) {
	h := New()
	r := made(t, h, "Object", 0)
	f := made(t, h, "Function", 0)
	for i, c := range []struct{ tell, want api.Desc }{
		{api.Desc{}, flags(told(api.Value{}), "wec")},
		{told(text("v")), flags(told(text("v")), "wec")},
		{flags(api.Desc{}, "W"), flags(told(api.Value{}), "Wec")},
		{flags(api.Desc{}, "EC"), flags(told(api.Value{}), "wEC")},
		{flags(told(object(f)), "WEC"), flags(told(object(f)), "WEC")},
		{api.Desc{HasGet: true}, flags(functions(0, 0), "ec")},
		{api.Desc{HasGet: true, Get: f}, flags(functions(f, 0), "ec")},
		{api.Desc{HasSet: true, Set: f}, flags(functions(0, f), "ec")},
		{flags(functions(f, r), "EC"), flags(functions(f, r), "EC")},
	} {
		for _, key := range []string{"k" + strconv.Itoa(i), strconv.Itoa(2 * i)} {
			defined(t, h, r, key, c.tell)
			owns(t, h, r, key, c.want)
		}
	}
}

// P62: one that is configurable may become all; what is not told stays.
func TestDefineConfigurable(t *testing.T) {
	h := New()
	r := made(t, h, "Object", 0)
	f := made(t, h, "Function", 0)
	for _, key := range []string{"k", "0", "5"} {
		defined(t, h, r, key, flags(told(number(1)), "weC"))
		for _, c := range []struct{ tell, want api.Desc }{
			{told(number(2)), flags(told(number(2)), "weC")},
			{flags(api.Desc{}, "W"), flags(told(number(2)), "WeC")},
			{flags(api.Desc{}, "E"), flags(told(number(2)), "WEC")},
			{api.Desc{}, flags(told(number(2)), "WEC")},
			{api.Desc{HasSet: true, Set: f}, flags(functions(0, f), "EC")},
			{api.Desc{HasGet: true, Get: f}, flags(functions(f, f), "EC")},
			{flags(api.Desc{HasSet: true}, "e"), flags(functions(f, 0), "eC")},
			{told(text("x")), flags(told(text("x")), "weC")},
			{flags(functions(f, f), "E"), flags(functions(f, f), "EC")},
			{flags(api.Desc{}, "w"), flags(told(api.Value{}), "wEC")},
			{flags(api.Desc{HasGet: true}, "C"), flags(functions(0, 0), "EC")},
			{flags(told(number(3)), "Wec"), flags(told(number(3)), "Wec")},
		} {
			defined(t, h, r, key, c.tell)
			owns(t, h, r, key, c.want)
		}
	}
}

// P62: one that is not configurable.
func TestDefineNotConfigurable(t *testing.T) {
	h := New()
	r := made(t, h, "Object", 0)
	f := made(t, h, "Function", 0)
	for i, c := range []struct {
		first    api.Desc
		may, not []api.Desc
	}{
		{flags(told(number(1)), "we"),
			[]api.Desc{{}, told(number(1)), flags(api.Desc{}, "wec"), flags(told(number(1)), "wec")},
			[]api.Desc{told(number(2)), told(text("1")), told(api.Value{}), flags(api.Desc{}, "W"), flags(told(number(1)), "W"), flags(api.Desc{}, "E"), flags(api.Desc{}, "C"), {HasGet: true}, {HasSet: true, Set: f}}},
		{flags(told(number(1)), "WE"),
			[]api.Desc{told(number(2)), told(object(f)), flags(api.Desc{}, "W"), flags(api.Desc{}, "E"), flags(told(text("")), "WEc")},
			[]api.Desc{flags(api.Desc{}, "e"), flags(api.Desc{}, "C"), flags(told(number(1)), "e"), {HasGet: true}, {HasSet: true}}},
		{flags(functions(f, 0), "e"),
			[]api.Desc{{}, {HasGet: true, Get: f}, {HasSet: true}, flags(functions(f, 0), "ec")},
			[]api.Desc{{HasGet: true}, {HasGet: true, Get: r}, {HasSet: true, Set: f}, functions(f, r), flags(api.Desc{}, "E"), flags(api.Desc{}, "C"), told(api.Value{}), flags(api.Desc{}, "w"), flags(api.Desc{}, "W")}},
	} {
		for _, key := range []string{"k" + strconv.Itoa(i), strconv.Itoa(i)} {
			defined(t, h, r, key, c.first)
			for _, d := range c.not {
				refused(t, h, r, key, d, api.ErrType)
			}
			for _, d := range c.may {
				defined(t, h, r, key, d)
			}
			for _, d := range c.not {
				refused(t, h, r, key, d, api.ErrType)
			}
		}
	}
	defined(t, h, r, "turned", flags(told(number(1)), "W"))
	defined(t, h, r, "turned", flags(told(number(2)), "w"))
	owns(t, h, r, "turned", flags(told(number(2)), "wec"))
	refused(t, h, r, "turned", told(number(1)), api.ErrType)
}

// P62: which values are the same.
func TestDefineSame(t *testing.T) {
	h := New()
	r := made(t, h, "Object", 0)
	q := made(t, h, "Object", 0)
	values := []api.Value{{}, {Kind: api.Null}, {Kind: api.Boolean}, {Kind: api.Boolean, Num: 1}, number(0), number(math.Copysign(0, -1)), number(1), number(math.NaN()), number(math.Inf(1)), text(""), text("0"), text("\ufffd"), text("\xed\xa0\xbd"), object(r), object(q)}
	for i, v := range values {
		for _, key := range []string{"k" + strconv.Itoa(i), strconv.Itoa(i)} {
			defined(t, h, r, key, told(v))
			for j, w := range values {
				if i == j {
					defined(t, h, r, key, told(w))
				} else {
					refused(t, h, r, key, told(w), api.ErrType)
				}
			}
		}
	}
	defined(t, h, r, "nan", told(number(math.NaN())))
	defined(t, h, r, "nan", told(number(math.Float64frombits(math.Float64bits(math.NaN())^1))))
	defined(t, h, r, "bytes", told(text("\xff")))
	defined(t, h, r, "bytes", told(text("\x80")))
}
