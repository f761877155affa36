package parse

import (
	"math"

	"ecmacore/api"
)

// maxNodes: of a tree that is written.
const maxNodes = 1 << 18

// count throws, if the tree is not all there, or is larger than may be written, as one is that lies in itself. nodes: how many were counted ahead of it; with it, they are what it answers.
func count(n *api.Node, nodes int) int {
	if n == nil {
		panic(api.ErrSyntax)
	}
	if nodes == maxNodes {
		panic(api.ErrDeep)
	}
	nodes++
	for _, k := range n.Kids {
		nodes = count(k, nodes)
	}
	return nodes
}

// same: but for where they are.
func same(a, b *api.Node) bool {
	if a.Kind != b.Kind || a.Text != b.Text || a.Flags != b.Flags || len(a.Kids) != len(b.Kids) {
		return false
	}
	if a.Num != b.Num || math.Signbit(a.Num) != math.Signbit(b.Num) {
		return false
	}
	for i, k := range a.Kids {
		if !same(k, b.Kids[i]) {
			return false
		}
	}
	return true
}

// part: one that must be there.
func part(n *api.Node, i int) *api.Node {
	if i >= len(n.Kids) {
		panic(api.ErrSyntax)
	}
	return n.Kids[i]
}

// partOf: likewise, and it must be of that kind.
func partOf(kind int, n *api.Node, i int) *api.Node {
	k := part(n, i)
	if k.Kind != kind {
		panic(api.ErrSyntax)
	}
	return k
}
