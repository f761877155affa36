package code

import "slices"

// target is a statement that break leaves, or a loop, with which continue goes on.
type target struct {
	labels    []string
	loop      bool
	nameless  bool // break means it without a label, too
	breaks    []int
	continues []int
}

// within compiles what lies in a target, and lets the jumps that leave it land behind it.
func (c *compiler) within(t *target, inner func()) {
	c.targets = append(c.targets, t)
	inner()
	c.targets = c.targets[:len(c.targets)-1]
	c.land(t.breaks...)
}

func (c *compiler) breakFrom(label string) {
	t := c.meant(func(t *target) bool { return t.means(label) })
	t.breaks = append(t.breaks, c.add(Jump, 0))
}

func (c *compiler) continueWith(label string) {
	t := c.meant(func(t *target) bool { return t.loop && t.means(label) })
	t.continues = append(t.continues, c.add(Jump, 0))
}

// meant: the nearest. (There is one: package parse saw to that.)
func (c *compiler) meant(is func(*target) bool) *target {
	for _, t := range slices.Backward(c.targets) {
		if is(t) {
			return t
		}
	}
	return &target{}
}

func (t *target) means(label string) bool {
	if label == "" {
		return t.nameless
	}
	return slices.Contains(t.labels, label)
}
