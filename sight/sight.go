// Package sight tells which nodes a level sees. Whatever is made of what is seen goes into nodes the same way, and no further than that.
package sight

import (
	"keyhole/api"
	"keyhole/level"
)

// Eye is what looks at nodes: a level of a lattice. What is no level sees nothing.
type Eye struct {
	Lattice *level.Lattice
	At      int
}

// Look tells the label that counts of a node that is in something, of which that label is told; and whether the node is seen.
func (e Eye) Look(n *api.Node, under int) (int, bool) {
	label := e.Lattice.Join(under, n.Label)
	return label, e.Lattice.Leq(label, e.At)
}

// Inner is the list in a node, unless the node isn't seen, and the label that counts there.
func (e Eye) Inner(n *api.Node, under int) ([]api.Node, int) {
	label, seen := e.Look(n, under)
	if !seen {
		return nil, label
	}
	return n.Items, label
}
