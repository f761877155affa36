package library_test

import (
	"testing"

	"ecmacore/heap"
	"ecmacore/machine"
)

// P110, P120: what there is from level 3 on, in which order, with which flags and lengths; level 2 has none of it.
func TestLevelThree(t *testing.T) {
	lower := filledTo(2)
	for _, level := range []int{3, 4, 1 << 40} {
		m := filledTo(level)
		p, q := m.Prototypes, lower.Prototypes
		for _, c := range []struct {
			name  string
			o, of *heap.Object
			more  string
		}{
			{"global", m.Global, lower.Global, " JSON:wc"}, {"Object's", p.Object, q.Object, ""}, {"Array's", p.Array, q.Array, ""}, {"String's", p.String, q.String, ""}, {"Number's", p.Number, q.Number, ""},
			{"Boolean's", p.Boolean, q.Boolean, ""}, {"RegExp's", p.RegExp, q.RegExp, ""}, {"Function's", p.Function, q.Function, ""}, {"Error's", p.Error, q.Error, ""},
		} {
			if got, want := written(c.o), written(c.of)+c.more; got != want {
				t.Errorf("%s\n has %s\nwant %s", c.name, got, want)
			}
		}
		o := m.Get(heap.Of(m.Global), heap.KeyOf("JSON")).Ref
		if got, want := written(o), "parse:wc2 stringify:wc3"; got != want || o.Class != "JSON" || o.Proto != p.Object || o.Fixed {
			t.Errorf("JSON, of class %s\n has %s\nwant %s", o.Class, got, want)
		}
		for _, k := range o.Keys() {
			f := m.Get(heap.Of(o), k).Ref
			if f.Class != "Function" || f.Proto != p.Function || written(f) != "length:" || f.Inner.(*machine.Function).New != nil {
				t.Errorf("%s: %s", k.Text(), written(f))
			}
		}
		if got, want := m.Stats().Live, lower.Stats().Live+3; got != want {
			t.Errorf("%d objects, want %d", got, want)
		}
	}
}
