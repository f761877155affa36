package parse

import (
	"math"

	"ecmacore/api"
)

// maxNodes: of a tree that is written.
const maxNodes = 1 << 18

// tooLarge: has a tree more nodes than may be written? One that lies in itself has. (What is missing counts, so that looking for it ends.)
func tooLarge(n *api.Node) bool {
	left := maxNodes - 1
	for todo := []*api.Node{n}; len(todo) > 0; {
		n := todo[len(todo)-1]
		todo = todo[:len(todo)-1]
		if n == nil {
			continue
		}
		if len(n.Kids) > left {
			return true
		}
		left -= len(n.Kids)
		todo = append(todo, n.Kids...)
	}
	return false
}

// same: but for where they are.
func same(a, b *api.Node) bool {
	if a.Kind != b.Kind || a.Text != b.Text || a.Flags != b.Flags || len(a.Kids) != len(b.Kids) {
		return false
	}
	if a.Num != b.Num || math.Signbit(a.Num) != math.Signbit(b.Num) {
		return false
	}
	for i, k := range a.Kids {
		if b.Kids[i] == nil || !same(k, b.Kids[i]) {
			return false
		}
	}
	return true
}

// part: one that must be there.
func part(n *api.Node, i int) *api.Node {
	if i >= len(n.Kids) || n.Kids[i] == nil {
		panic(api.ErrSyntax)
	}
	return n.Kids[i]
}

// partOf: likewise, and it must be of that kind.
func partOf(kind int, n *api.Node, i int) *api.Node {
	k := part(n, i)
	if k.Kind != kind {
		panic(api.ErrSyntax)
	}
	return k
}
