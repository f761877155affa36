package objects

import (
	"math"
	"strconv"
	"testing"

	"ecmacore/api"
)

// P66
func TestReached(t *testing.T) {
	h := New()
	var l [12]int
	for i := range l {
		proto := 0
		if i == 3 {
			proto = l[2]
		}
		l[i] = made(t, h, "Object", proto)
	}
	defined(t, h, l[0], "value", told(object(l[1])))
	defined(t, h, l[1], "5", flags(functions(l[3], l[4]), "E"))
	defined(t, h, l[2], "set", api.Desc{HasSet: true, Set: l[5]})
	defined(t, h, l[5], "0", all(object(l[6])))
	defined(t, h, l[6], "back", all(object(l[0])))
	defined(t, h, l[6], "self", all(object(l[6])))
	// Two hold each other, and one that is reached; nobody holds them.
	defined(t, h, l[7], "x", all(object(l[8])))
	defined(t, h, l[8], "x", all(object(l[7])))
	defined(t, h, l[8], "0", all(object(l[0])))
	// What was held once is not any more.
	defined(t, h, l[0], "over", all(object(l[9])))
	defined(t, h, l[0], "over", all(number(1)))
	defined(t, h, l[0], "gone", all(object(l[10])))
	if err := h.Delete(l[0], "gone"); err != nil {
		t.Error(err)
	}
	defined(t, h, l[0], "3", all(object(l[11])))
	defined(t, h, l[0], "3", functions(0, 0))
	roots := []int{0, l[0], -1, l[0], 99, math.MaxInt, math.MinInt}
	if n := h.Collect(roots); n != 5 || h.Live() != 7 {
		t.Errorf("Collect = %d, %d are left", n, h.Live())
	}
	for i, r := range l {
		if h.Has(r) != (i < 7) {
			t.Errorf("Has(the %dth) = %v", i, h.Has(r))
		}
	}
	if roots[0] != 0 || roots[1] != l[0] || roots[6] != math.MinInt {
		t.Error("the roots were changed")
	}
	owns(t, h, l[5], "0", all(object(l[6])))
	if _, who, _ := h.Find(l[3], "set"); who != l[2] {
		t.Error("what stands behind is gone")
	}
	refused(t, h, l[0], "z", told(object(l[7])), api.ErrType)
	if n := h.Collect(roots); n != 0 {
		t.Errorf("Collect again = %d", n)
	}
	if n := h.Collect([]int{l[6], l[7]}); n != 0 {
		t.Errorf("Collect from another of them = %d", n)
	}
	if n := h.Collect([]int{l[4]}); n != 6 || !h.Has(l[4]) {
		t.Errorf("Collect from one that holds nothing = %d", n)
	}
	if n := h.Collect(nil); n != 1 || h.Live() != 0 {
		t.Errorf("Collect from nothing = %d", n)
	}
	if n := h.Collect([]int{}); n != 0 {
		t.Errorf("Collect of nothing = %d", n)
	}
}

// P66: also of Arrays, whose places were cut.
func TestReachedByPlaces(t *testing.T) {
	h := New()
	a := made(t, h, "Array", 0)
	var l []int
	for i := range 10 {
		l = append(l, made(t, h, "Object", 0))
		defined(t, h, a, strconv.Itoa(i*i), all(object(l[i])))
	}
	if n := h.Collect([]int{a}); n != 0 {
		t.Errorf("Collect = %d", n)
	}
	defined(t, h, a, "length", told(number(10)))
	if n := h.Collect([]int{a}); n != 6 || !h.Has(l[3]) || h.Has(l[4]) {
		t.Errorf("Collect behind the length = %d", n)
	}
}

// P66: however long the way is.
func TestLongWays(t *testing.T) {
	const many = 100000
	h := New()
	first := made(t, h, "Object", 0)
	last := first
	for i := range many {
		r := 0
		if i%2 == 0 {
			r = made(t, h, "Object", 0)
			defined(t, h, last, "next", all(object(r)))
		} else {
			r = made(t, h, "Array", last)
			defined(t, h, last, "0", all(object(r)))
		}
		last = r
	}
	if n := h.Collect([]int{first}); n != 0 {
		t.Errorf("Collect = %d", n)
	}
	if n := h.Collect([]int{last}); n < many/2 || !h.Has(last) || h.Has(first) {
		t.Errorf("Collect from the last = %d", n)
	}
}

// P67
func TestShapesByKeys(t *testing.T) {
	h := New()
	f := made(t, h, "Function", 0)
	way := func(steps ...func(r int)) int {
		r := made(t, h, "Object", 0)
		for _, step := range steps {
			step(r)
		}
		return r
	}
	def := func(key string, d api.Desc) func(int) {
		return func(r int) { defined(t, h, r, key, d) }
	}
	x, y := def("x", all(number(1))), def("y", all(number(1)))
	alike := func(a, b int, want bool, what string) {
		t.Helper()
		if h.Same(a, b) != want || h.Same(b, a) != want {
			t.Errorf("Same: %s: %v", what, !want)
		}
		if want && (!h.Same(a, a) || !h.Same(b, b)) {
			t.Errorf("Same with itself: %s", what)
		}
	}
	alike(way(), way(), true, "no keys")
	alike(way(), way(def("0", all(number(1))), def("7", api.Desc{})), true, "places")
	alike(way(), way(x), false, "a key, and none")
	alike(way(x), way(x), true, "x")
	alike(way(x), way(y), false, "x, and y")
	alike(way(x, y), way(x, y), true, "x, y")
	alike(way(x, y), way(y, x), false, "the order")
	alike(way(x), way(x, y), false, "one more")
	alike(way(x, def("4294967295", all(number(1)))), way(x), false, "what is no place")
	alike(way(x), way(def("x", all(object(f)))), true, "the value")
	alike(way(x), way(def("3", all(number(1))), x, def("2", functions(f, f))), true, "places around")
	for i, letters := range []string{"wEC", "WeC", "WEc", "wec"} {
		alike(way(x), way(def("x", flags(told(number(1)), letters))), false, "flags "+strconv.Itoa(i))
		alike(way(def("x", flags(told(number(1)), letters))), way(def("x", flags(api.Desc{}, letters))), true, "the same flags")
	}
	alike(way(def("x", functions(f, 0))), way(def("x", functions(0, f))), true, "functions")
	alike(way(def("x", functions(f, f))), way(def("x", api.Desc{})), false, "functions, and a value")
	alike(way(x, x), way(x), true, "defined anew")
	alike(way(x, y, def("x", told(number(5)))), way(x, y), true, "a further value")
	alike(way(x, def("x", flags(api.Desc{}, "WEC"))), way(x), true, "the same flags told again")
	for i, turn := range []api.Desc{flags(api.Desc{}, "w"), flags(api.Desc{}, "e"), flags(api.Desc{}, "c"), functions(f, f), {HasGet: true}} {
		what := "turned " + strconv.Itoa(i)
		alike(way(x, def("x", turn)), way(x), false, what)
		alike(way(x, def("x", turn)), way(x, def("x", turn)), false, what)
		alike(way(x, def("x", turn)), way(def("x", turn)), false, what)
		r := way(x, def("x", turn))
		if h.Same(r, r) {
			t.Errorf("%s has its shape with itself", what)
		}
		defined(t, h, r, "y", all(number(1)))
		if h.Same(r, r) || h.Same(r, way(x, y)) {
			t.Errorf("%s, and one more", what)
		}
	}
}

// P67: an object that lost a key.
func TestShapesOfLosers(t *testing.T) {
	h := New()
	a, b, fresh := made(t, h, "Object", 0), made(t, h, "Object", 0), made(t, h, "Object", 0)
	for _, r := range []int{a, b} {
		defined(t, h, r, "x", all(number(1)))
		defined(t, h, r, "3", all(number(1)))
	}
	for _, key := range []string{"3", "none", "4"} {
		if err := h.Delete(a, key); err != nil || !h.Same(a, b) || !h.Same(a, a) {
			t.Errorf("Delete of %q: %v", key, err)
		}
	}
	if err := h.Delete(a, "x"); err != nil {
		t.Error(err)
	}
	if h.Same(a, a) || h.Same(a, fresh) || h.Same(a, b) || !h.Same(b, b) {
		t.Error("one that lost its key")
	}
	defined(t, h, a, "x", all(number(1)))
	if h.Same(a, a) || h.Same(a, b) {
		t.Error("one that got its key again")
	}
	if err := h.Delete(b, "x"); err != nil || h.Same(a, b) || h.Same(b, b) {
		t.Error("two that lost their keys")
	}
}

// P67: a key that could not go, or turn, changes nothing.
func TestShapesOfRefused(t *testing.T) {
	h := New()
	a, b := made(t, h, "Object", 0), made(t, h, "Object", 0)
	for _, r := range []int{a, b} {
		defined(t, h, r, "x", flags(told(number(1)), "W"))
	}
	refused(t, h, a, "x", flags(api.Desc{}, "C"), api.ErrType)
	if err := h.Delete(a, "x"); err != api.ErrType {
		t.Error(err)
	}
	if err := h.Fix(a); err != nil {
		t.Error(err)
	}
	refused(t, h, a, "y", all(number(1)), api.ErrType)
	if !h.Same(a, b) {
		t.Error("what was refused turned the shape")
	}
}

// P67: Arrays have a key from the first on.
func TestShapesOfArrays(t *testing.T) {
	h := New()
	a, b := made(t, h, "Array", 0), made(t, h, "Array", 0)
	o, p := made(t, h, "Object", a), made(t, h, "Array", o0(h))
	if !h.Same(a, b) || h.Same(a, o) || !h.Same(a, p) {
		t.Error("new ones")
	}
	defined(t, h, o, "length", flags(told(text("")), "W"))
	if !h.Same(a, o) {
		t.Error("one that came to the same key")
	}
	defined(t, h, a, "5", all(number(1)))
	defined(t, h, b, "length", told(number(77)))
	if !h.Same(a, b) {
		t.Error("places, and lengths")
	}
	defined(t, h, b, "length", flags(told(number(2)), "w"))
	if h.Same(a, b) || h.Same(b, b) {
		t.Error("a length that is not writable any more")
	}
	defined(t, h, a, "1", told(number(1)))
	if err := h.Define(a, "length", told(number(0))); err != api.ErrType || !h.Same(a, p) {
		t.Errorf("a place that could not go: %v", err)
	}
	if err := h.Define(a, "length", flags(told(number(0)), "w")); err != api.ErrType || h.Same(a, a) {
		t.Errorf("a place that could not go, and flags that turned: %v", err)
	}
}

func o0(h *Heap) int {
	r, _ := h.Make("Object", 0)
	return r
}

// P67: a collection changes no shapes, and those that nobody has any more come again.
func TestShapesCollected(t *testing.T) {
	h := New()
	build := func(keys ...string) int {
		r := made(t, h, "Object", 0)
		for _, key := range keys {
			defined(t, h, r, key, all(number(1)))
		}
		return r
	}
	long := build("a", "b", "c", "d")
	build("a", "b", "c", "d", "e", "f")
	build("x", "y", "z")
	other := build("a", "c")
	h.Collect([]int{long, other})
	if !h.Same(long, build("a", "b", "c", "d")) || !h.Same(other, build("a", "c")) || h.Same(long, other) {
		t.Error("those that were kept")
	}
	if !h.Same(build("x", "y", "z"), build("x", "y", "z")) || !h.Same(build("a", "b"), build("a", "b")) {
		t.Error("those that come again")
	}
	further := build("a", "b", "c", "d", "f")
	keysAre(t, h, further, "a", "b", "c", "d", "f")
	if _, has := h.Own(further, "e"); has || h.Same(further, build("a", "b", "c", "d", "e")) {
		t.Error("keys of what is gone")
	}
	defined(t, h, long, "f", all(number(2)))
	if !h.Same(long, further) {
		t.Error("one that was kept takes a further step")
	}
	owns(t, h, long, "f", all(number(2)))
}
