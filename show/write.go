package show

import (
	"strings"

	"keyhole/api"
	"keyhole/sight"
)

// begun is a node whose text is begun, and how many of its items were written.
type begun struct {
	shell
	done int
}

// writer puts texts behind one another.
type writer struct {
	eye sight.Eye
	out strings.Builder
	// row has each node that is begun, behind the one that it is in: nodes can be deeper than calls go.
	row []begun
}

// written is the text of a node, which is so long.
func written(eye sight.Eye, n api.Node, size int) string {
	w := writer{eye: eye}
	w.out.Grow(size)
	w.begin(&n, eye.Lattice.Bottom())
	for len(w.row) > 0 {
		w.step()
	}
	return w.out.String()
}

// put puts texts behind what was written.
func (w *writer) put(texts ...string) {
	for _, s := range texts {
		w.out.WriteString(s)
	}
}

func (w *writer) begin(n *api.Node, under int) {
	s := shellOf(w.eye, n, under)
	w.put(s.ahead)
	w.row = append(w.row, begun{shell: s})
}

// step goes on with the last node that is begun: with its next item, or with its end.
func (w *writer) step() {
	last := &w.row[len(w.row)-1]
	i := last.done
	if i == len(last.items) {
		w.put(last.behind)
		w.row = w.row[:len(w.row)-1]
		return
	}
	last.done++
	if i > 0 {
		w.put(",")
	}
	if len(last.keys) > 0 {
		w.put(lead(last.keys[i]))
	}
	w.begin(&last.items[i], last.label)
}
