package machine

import "ecmacore/heap"

// walk goes through the keys of an object, and of what stands behind it, for a for in.
type walk struct {
	object *heap.Object
	keys   []heap.Key // those that are still to come
	key    heap.Key   // the one whose turn it is
}

// Hold: the object is asked again at each key.
func (w *walk) Hold(k *heap.Marker) { k.Object(w.object) }

// keysOf a value: those that are enumerable are gathered now; others hide what is behind them, too.
func (m *Machine) keysOf(v heap.Value) *walk {
	if IsNothing(v) {
		return &walk{}
	}
	w := &walk{object: m.Object(v)}
	met := map[heap.Key]struct{}{}
	for o := w.object; o != nil; o = o.Proto {
		for _, k := range o.Keys() {
			if _, was := met[k]; was {
				continue
			}
			met[k] = struct{}{}
			if p, _ := o.Own(k); p.Enumerable {
				w.keys = append(w.keys, k)
			}
		}
	}
	return w
}

// next: the turn of the next key that the object still has, or what is behind it; false: there is none.
func (w *walk) next() bool {
	for len(w.keys) > 0 {
		w.key, w.keys = w.keys[0], w.keys[1:]
		if Has(w.object, w.key) {
			return true
		}
	}
	return false
}

func (w *walk) text() heap.Value { return heap.String(w.key.Text()) }
