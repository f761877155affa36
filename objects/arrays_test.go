package objects

import (
	"errors"
	"math"
	"strconv"
	"testing"

	"ecmacore/api"
)

func lengthIs(t *testing.T, h *Heap, r int, n float64, letters string) {
	t.Helper()
	owns(t, h, r, "length", flags(told(number(n)), letters))
}

// P62: what a length may be.
func TestLengthRange(t *testing.T) {
	h := New()
	a := made(t, h, "Array", 0)
	o := made(t, h, "Object", 0)
	wrong := []api.Value{{}, {Kind: api.Null}, {Kind: api.Boolean}, {Kind: api.Boolean, Num: 1}, text("1"), text(""), object(a), number(-1), number(0.5), number(-0.5), number(4294967295.5), number(4294967296), number(1e300), number(math.NaN()), number(math.Inf(1)), number(math.Inf(-1)), number(-5e-324)}
	for _, v := range wrong {
		refused(t, h, a, "length", told(v), api.ErrRange)
		// ErrRange comes ahead of what the property has against it.
		refused(t, h, a, "length", flags(told(v), "EC"), api.ErrRange)
		defined(t, h, o, "length", all(v))
	}
	for _, d := range []api.Desc{told(object(99)), told(api.Value{Kind: 6}), {HasValue: true, HasGet: true}, {HasGet: true}, {HasSet: true, Set: a}} {
		refused(t, h, a, "length", d, api.ErrType)
	}
	for _, n := range []float64{1, 4294967295, 4294967294, 0, 77} {
		defined(t, h, a, "length", told(number(n)))
		lengthIs(t, h, a, n, "Wec")
	}
	defined(t, h, a, "length", told(number(math.Copysign(0, -1))))
	lengthIs(t, h, a, 0, "Wec")
	refused(t, h, a, "length", flags(told(number(3)), "E"), api.ErrType)
	refused(t, h, a, "length", flags(told(number(3)), "C"), api.ErrType)
	defined(t, h, a, "length", flags(told(number(3)), "Wec"))
	lengthIs(t, h, a, 3, "Wec")
	if err := h.Delete(a, "length"); err != api.ErrType {
		t.Errorf("Delete of the length: %v", err)
	}
	defined(t, h, a, "length", flags(api.Desc{}, "w"))
	lengthIs(t, h, a, 3, "wec")
	defined(t, h, a, "length", told(number(3)))
	for _, v := range wrong {
		refused(t, h, a, "length", told(v), api.ErrRange)
	}
	for _, d := range []api.Desc{told(number(2)), told(number(4)), told(number(0)), flags(api.Desc{}, "W"), flags(told(number(3)), "W")} {
		refused(t, h, a, "length", d, api.ErrType)
	}
}

// P63: places make an Array longer.
func TestLengthGrows(t *testing.T) {
	h := New()
	a := made(t, h, "Array", 0)
	for _, c := range []struct {
		key  string
		want float64
	}{{"0", 1}, {"1", 2}, {"5", 6}, {"3", 6}, {"x", 6}, {"05", 6}, {"4294967295", 6}, {"5", 6}, {"4294967293", 4294967294}, {"4294967294", 4294967295}, {"4294967296", 4294967295}} {
		defined(t, h, a, c.key, all(number(1)))
		lengthIs(t, h, a, c.want, "Wec")
	}
	keysAre(t, h, a, "0", "1", "3", "5", "4294967293", "4294967294", "length", "x", "05", "4294967295", "4294967296")
	b := made(t, h, "Array", 0)
	defined(t, h, b, "length", flags(told(number(2)), "w"))
	defined(t, h, b, "1", all(number(1)))
	defined(t, h, b, "0", told(number(1)))
	refused(t, h, b, "2", all(number(1)), api.ErrType)
	refused(t, h, b, "4294967294", all(number(1)), api.ErrType)
	defined(t, h, b, "4294967295", all(number(1)))
	lengthIs(t, h, b, 2, "wec")
	if err := h.Delete(b, "1"); err != nil {
		t.Errorf("Delete: %v", err)
	}
	lengthIs(t, h, b, 2, "wec")
	c := made(t, h, "Array", 0)
	defined(t, h, c, "2", all(number(1)))
	if err := h.Fix(c); err != nil {
		t.Error(err)
	}
	refused(t, h, c, "3", all(number(1)), api.ErrType)
	refused(t, h, c, "1", all(number(1)), api.ErrType)
	lengthIs(t, h, c, 3, "Wec")
	defined(t, h, c, "length", told(number(9)))
	defined(t, h, c, "length", told(number(1)))
	keysAre(t, h, c, "length")
	// A place that may not be does not make it longer.
	e := made(t, h, "Array", 0)
	refused(t, h, e, "4", told(object(99)), api.ErrType)
	lengthIs(t, h, e, 0, "Wec")
}

// P63: a lower length takes places away, from the highest on.
func TestLengthCuts(t *testing.T) {
	for _, c := range []struct {
		places, kept string // what is kept is not configurable
		tell         float64
		want         float64
		rest         string
	}{
		{"012", "", 0, 0, ""},
		{"012", "", 2, 2, "01"},
		{"012", "", 3, 3, "012"},
		{"012", "1", 0, 2, "01"}, // example 6
		{"012", "0", 0, 1, "0"},
		{"012", "2", 0, 3, "012"},
		{"012", "2", 3, 3, "012"},
		{"012345", "13", 0, 4, "0123"},
		{"012345", "13", 2, 4, "0123"},
		{"012345", "13", 4, 4, "0123"},
		{"9", "", 4, 4, ""},
		{"95", "5", 7, 7, "5"},
		{"9520", "5", 1, 6, "025"},
		{"210", "0", 1, 1, "0"},
	} {
		for _, writable := range []string{"", "W", "w"} {
			h := New()
			a := made(t, h, "Array", 0)
			for _, k := range c.places {
				defined(t, h, a, string(k), all(number(1)))
			}
			for _, k := range c.kept {
				defined(t, h, a, string(k), flags(api.Desc{}, "c"))
			}
			err := h.Define(a, "length", flags(told(number(c.tell)), writable))
			if stuck := c.want != c.tell; stuck && !errors.Is(err, api.ErrType) || !stuck && err != nil {
				t.Errorf("%+v: %v", c, err)
			}
			after := "Wec"
			if writable == "w" {
				after = "wec"
			}
			lengthIs(t, h, a, c.want, after)
			var want []string
			for _, k := range c.rest {
				want = append(want, string(k))
			}
			keysAre(t, h, a, append(want, "length")...)
		}
	}
}

// P63: if the rest of what is told may not be, no place goes.
func TestLengthCutsNothing(t *testing.T) {
	h := New()
	a := made(t, h, "Array", 0)
	defined(t, h, a, "3", all(number(1)))
	refused(t, h, a, "length", flags(told(number(0)), "C"), api.ErrType)
	refused(t, h, a, "length", flags(told(number(0)), "E"), api.ErrType)
	defined(t, h, a, "length", flags(api.Desc{}, "w"))
	refused(t, h, a, "length", told(number(0)), api.ErrType)
	refused(t, h, a, "length", flags(told(number(0)), "w"), api.ErrType)
	keysAre(t, h, a, "3", "length")
	if err := h.Delete(a, "3"); err != nil {
		t.Error(err)
	}
	refused(t, h, a, "length", told(number(3)), api.ErrType)
}

// P63: places far apart, by a length that is far from them.
func TestLengthFar(t *testing.T) {
	h := New()
	a := made(t, h, "Array", 0)
	for i := range 100 {
		defined(t, h, a, strconv.Itoa(i*40000000), all(number(1)))
	}
	defined(t, h, a, "4294967294", told(number(1)))
	if err := h.Define(a, "length", told(number(5))); err != api.ErrType {
		t.Error(err)
	}
	lengthIs(t, h, a, 4294967295, "Wec")
	b := made(t, h, "Array", 0)
	for i := range 100 {
		defined(t, h, b, strconv.Itoa(i*40000000), all(number(1)))
	}
	defined(t, h, b, "40000000", flags(api.Desc{}, "c"))
	if err := h.Define(b, "length", told(number(5))); err != api.ErrType {
		t.Error(err)
	}
	lengthIs(t, h, b, 40000001, "Wec")
	keysAre(t, h, b, "0", "40000000", "length")
}
