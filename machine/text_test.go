package machine

import (
	"strings"
	"testing"

	"ecmacore/api"
	"ecmacore/heap"
)

// thrown: whether a function throws.
func thrown(f func()) (is bool) {
	defer func() { _, is = recover().(Thrown) }()
	f()
	return false
}

// P72, P113: what is gathered is asked for its units when it is whole, and no more of it is kept than can be in a string.
func TestGathered(t *testing.T) {
	m := New()
	var text Text
	text.Gather(heap.String("a"), heap.Counted("\xed\xa0\xbd", 1), heap.Counted("\xed\xb8\x80", 1))
	if v := text.Whole(m); v != heap.String("a\U0001F600") || v.Count() != 3 {
		t.Errorf("%+v", v)
	}
	half := heap.String(strings.Repeat("x", api.MaxString/2))
	text = Text{}
	text.Gather(half, half)
	if v := text.Whole(m); v.Count() != api.MaxString || len(v.Text) != api.MaxString {
		t.Errorf("%d units", v.Count())
	}
	for range 1000 {
		text.Gather(half)
	}
	if len(text.bytes) > api.MaxString || !thrown(func() { text.Whole(m) }) {
		t.Errorf("%d bytes", len(text.bytes))
	}
	// What comes behind too much does not make it less.
	text = Text{}
	text.Gather(half, half, heap.String("x"), heap.String(""))
	if !thrown(func() { text.Whole(m) }) {
		t.Error("one unit too many")
	}
	if v := (&Text{}).Whole(m); v != heap.String("") {
		t.Errorf("%+v", v)
	}
}
