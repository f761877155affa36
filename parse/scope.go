package parse

import (
	"slices"

	"ecmacore/api"
)

// scope: what stands around, in the same function.
type scope struct {
	function bool
	loops    int
	switches int
	labels   []label
	ahead    int // how many of the labels stand right ahead of the statement that is read next
}

type label struct {
	name string
	loop bool
}

// settle: now it is known what the labels right ahead of this statement belong to.
func (r *reader) settle() {
	loop := r.is("do") || r.is("while") || r.is("for")
	for i := len(r.labels) - r.ahead; i < len(r.labels); i++ {
		r.labels[i].loop = loop
	}
	r.ahead = 0
}

// around: is there a label of that name, and, if it must be, a loop's?
func (r *reader) around(name string, loop bool) bool {
	return slices.ContainsFunc(r.labels, func(l label) bool { return l.name == name && (l.loop || !loop) })
}

// bound passes a name that is bound here; it is looked at ahead of what follows.
func (r *reader) bound(pattern int) string {
	name := r.tok.Text
	if r.tok.Kind != api.TName {
		r.wrong(api.ErrSyntax)
	}
	if fixed(name) {
		r.wrong(api.ErrEarly)
	}
	r.pass(pattern)
	return name
}

// target: what begins at that byte, with its brackets, is assigned to.
func target(n *api.Node, at int) {
	if !isPlace(n) || n.Kind == api.NName && fixed(n.Text) {
		wrongAt(api.ErrEarly, at)
	}
}

func isPlace(n *api.Node) bool {
	return n.Kind == api.NName || n.Kind == api.NDot || n.Kind == api.NIndex
}

// fixed: names that are neither bound nor assigned to.
func fixed(name string) bool { return name == "eval" || name == "arguments" }

// What a key was, in keys.
const (
	asValue = 1 << iota
	asGet
	asSet
)

// keys: of an object that is being written: what each was.
type keys map[string]int

// add: the property that begins at that byte has that key. Only get and set may stand beside each other.
func (k keys) add(key string, as, at int) {
	was := k[key]
	if was&as != 0 || (was|as)&asValue != 0 && was != 0 {
		wrongAt(api.ErrEarly, at)
	}
	k[key] = was | as
}
