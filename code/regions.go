package code

import (
	"iter"
	"slices"
)

// kind of a region: what it takes to leave it.
type kind int

const (
	plain     kind = iota // a statement that break can mean: nothing
	walking               // the rounds of a for in: its keys go
	catching              // a catch: its scope is left
	guarded               // what a finally follows: that is done
	finishing             // the finally itself: how it was come to is forgotten
)

// region is a part of a function that a jump can leave.
type region struct {
	kind      kind
	labels    []string
	loop      bool // continue goes on with it
	nameless  bool // break means it without a label, too
	breaks    []int
	continues []int
	visits    []int // those of the finally that follows
}

// within compiles what lies in a region, and lets the jumps that leave it land behind it.
func (c *compiler) within(r *region, inner func()) {
	c.regions = append(c.regions, r)
	inner()
	c.regions = c.regions[:len(c.regions)-1]
	c.land(r.breaks...)
}

// left: the regions that a jump into one leaves, from within outwards; nil: all.
func (c *compiler) left(into *region) iter.Seq[*region] {
	return func(yield func(*region) bool) {
		for _, r := range slices.Backward(c.regions) {
			if r == into || !yield(r) {
				return
			}
		}
	}
}

func (c *compiler) breakFrom(label string) {
	r := c.meant(func(r *region) bool { return r.means(label) })
	c.leaveUpTo(r)
	r.breaks = append(r.breaks, c.add(Jump, 0))
}

func (c *compiler) continueWith(label string) {
	r := c.meant(func(r *region) bool { return r.loop && r.means(label) })
	c.leaveUpTo(r)
	r.continues = append(r.continues, c.add(Jump, 0))
}

// meant: the nearest. (There is one: package parse saw to that.)
func (c *compiler) meant(is func(*region) bool) *region {
	for r := range c.left(nil) {
		if is(r) {
			return r
		}
	}
	return &region{}
}

func (r *region) means(label string) bool {
	if label == "" {
		return r.nameless
	}
	return slices.Contains(r.labels, label)
}

func (c *compiler) leaveUpTo(into *region) {
	for r := range c.left(into) {
		if r.kind == guarded {
			c.visit(r)
		} else {
			c.leave(r)
		}
	}
}

// returns: the value on the top stays there, while all regions are left.
func (c *compiler) returns() {
	for r := range c.left(nil) {
		switch r.kind {
		case guarded:
			r.visits = append(r.visits, c.add(Visit, 0))
		case finishing:
			c.add(Under, finishingValues)
			fallthrough
		default:
			c.leave(r)
		}
	}
	c.add(Return, 0)
}

// finishingValues lie on the stack while a finally is being done: what was given or thrown, and the address.
const finishingValues = 2

func (c *compiler) leave(r *region) {
	switch r.kind {
	case walking:
		c.add(EndKeys, 0)
	case catching:
		c.add(LeaveCatch, 0)
	case finishing:
		for range finishingValues {
			c.add(Pop, 0)
		}
	}
}

// visit: the finally is done on the way out, with a value that does not matter.
func (c *compiler) visit(r *region) {
	c.add(Nothing, 0)
	r.visits = append(r.visits, c.add(Visit, 0))
	c.add(Pop, 0)
}

// inside: how many regions of a kind are around.
func (c *compiler) inside(k kind) int {
	n := 0
	for r := range c.left(nil) {
		if r.kind == k {
			n++
		}
	}
	return n
}
