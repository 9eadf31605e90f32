package show

import (
	"math"

	"keyhole/api"
	"keyhole/kinds"
	"keyhole/sight"
	"keyhole/within"
)

// none is the length of what there isn't, and of what is longer than it may be.
const none = -1

// longest is how long a text may be whatever is asked for: of what goes beyond it nothing is promised, and it might be too much to be held.
const longest = math.MaxInt32

// ruler tells how long texts are, ahead of their being written: nodes that share items can have texts that are far longer than could be written, or gone through.
type ruler struct {
	sight.Eye
	most int
}

// measured is how long the text of a node is; false, if it has more than most bytes, or there is none, since something that is seen may not be.
func measured(eye sight.Eye, n api.Node, most int) (int, bool) {
	r := ruler{eye, min(most, longest)}
	size, ok := within.Fold([]api.Node{n}, eye.Lattice.Bottom(), eye.Inner, r.list)
	return size, ok && size != none
}

// list is how long the texts of a list's nodes are, with commas between.
func (r ruler) list(nodes []api.Node, under int, in func(i int) int) int {
	size := max(len(nodes)-1, 0)
	for i := range nodes {
		if size == none {
			break
		}
		size = r.sum(size, r.node(&nodes[i], under, in(i)))
	}
	return size
}

// node is how long the text of a node is, whose items' texts are so long.
func (r ruler) node(n *api.Node, under, items int) int {
	if _, seen := r.Look(n, under); seen && !kinds.Right(n.Kind, n.Num, n.Str, n.Keys, len(n.Items)) {
		return none
	}
	s := shellOf(r.Eye, n, under)
	size := r.sum(len(s.ahead), items, len(s.behind))
	for _, key := range s.keys {
		if size == none {
			break
		}
		size = r.sum(size, len(lead(key)))
	}
	return size
}

// sum is how long texts of such lengths are together.
func (r ruler) sum(sizes ...int) int {
	all := 0
	for _, size := range sizes {
		if size == none || size > r.most-all {
			return none
		}
		all += size
	}
	return all
}
