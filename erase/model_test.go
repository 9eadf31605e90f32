package erase_test

import (
	"fmt"
	"math"
	"math/rand"
	"slices"
	"strconv"
	"testing"

	"keyhole/api"
	"keyhole/level"
	"keyhole/node"
)

// noLevels are numbers that are no levels, of however many levels there are.
var noLevels = []int{-1, -2, api.MaxLevels, api.MaxLevels + 1, math.MaxInt, math.MinInt}

// lattice has so many levels.
func lattice(size int, below ...[2]int) *level.Lattice {
	p := api.Policy{Below: below}
	for i := range size {
		p.Names = append(p.Names, "l"+strconv.Itoa(i))
	}
	l, e := level.New(p)
	if e != api.OK {
		panic("no lattice")
	}
	return l
}

// chain has the levels 0, 1, 2, each below the next one.
func chain() *level.Lattice { return lattice(3, [2]int{0, 1}, [2]int{1, 2}) }

// sides has the levels 0 and 3, and between them 1 and 2, side by side.
func sides() *level.Lattice {
	return lattice(4, [2]int{0, 1}, [2]int{0, 2}, [2]int{1, 3}, [2]int{2, 3})
}

// turnedSides is sides, with the bottom at 3, and the top at 1.
func turnedSides() *level.Lattice {
	return lattice(4, [2]int{3, 0}, [2]int{3, 2}, [2]int{0, 1}, [2]int{2, 1})
}

// shapes are lattices whose bottoms and tops are at one place and at another one.
func shapes() []*level.Lattice {
	return []*level.Lattice{
		lattice(1),
		lattice(2, [2]int{0, 1}),
		lattice(2, [2]int{1, 0}),
		lattice(3, [2]int{2, 0}, [2]int{1, 2}),
		chain(),
		sides(),
		turnedSides(),
		lattice(5, [2]int{0, 1}, [2]int{1, 2}, [2]int{2, 4}, [2]int{0, 3}, [2]int{3, 4}),
		lattice(8, [2]int{7, 6}, [2]int{7, 5}, [2]int{7, 3}, [2]int{6, 4}, [2]int{6, 2}, [2]int{5, 4}, [2]int{5, 1}, [2]int{3, 2}, [2]int{3, 1}, [2]int{4, 0}, [2]int{2, 0}, [2]int{1, 0}),
	}
}

// levels are those of a lattice, and some numbers that are none.
func levels(l *level.Lattice) []int {
	out := slices.Clone(noLevels)
	for a := range l.Size() {
		out = append(out, a)
	}
	return append(out, l.Size())
}

func null(a int) api.Node { return api.Node{Label: a, Deep: a} }

func text(a int, s string) api.Node {
	return api.Node{Label: a, Deep: a, Kind: api.String, Str: s}
}

func number(a int, n int64) api.Node {
	return api.Node{Label: a, Deep: a, Kind: api.Number, Num: api.Num{Coef: n}}
}

func array(a, deep int, items ...api.Node) api.Node {
	return api.Node{Label: a, Deep: deep, Kind: api.Array, Items: items}
}

func object(a, deep int, keys []string, items ...api.Node) api.Node {
	return api.Node{Label: a, Deep: deep, Kind: api.Object, Items: items, Keys: keys}
}

func hole(l *level.Lattice) api.Node {
	return api.Node{Kind: api.Hole, Label: l.Top(), Deep: l.Top()}
}

// nest is a node that so many arrays, or objects, of one level are around.
func nest(a, deep int, n api.Node, count int) api.Node {
	for i := range count {
		if i%3 == 2 {
			n = object(a, deep, []string{"a"}, n)
		} else {
			n = array(a, deep, n)
		}
	}
	return n
}

// double is a node that is twice in an array, which is twice in one, and so on, so many times; all share what is in them.
func double(a, deep int, n api.Node, count int) api.Node {
	for range count {
		n = array(a, deep, n, n)
	}
	return n
}

// ring is a node that is so many deep in itself.
func ring(a, n int) api.Node {
	items := make([]api.Node, n)
	for i := range n {
		next := (i + 1) % n
		items[i] = array(a, a, items[next:next+1:next+1]...)
	}
	return items[0]
}

// brief is what a test tells of something, cut where it is long.
func brief(v any) string {
	s := fmt.Sprintf("%+q", v)
	if len(s) > 300 {
		s = fmt.Sprintf("%s.. (%d bytes)", s[:300], len(s))
	}
	return s
}

// equal says whether all fields are the same, of nodes that are neither deep nor shared often.
func equal(a, b api.Node) bool {
	same := a.Label == b.Label && a.Deep == b.Deep && a.Kind == b.Kind && a.Num == b.Num && a.Str == b.Str
	return same && slices.Equal(a.Keys, b.Keys) && slices.EqualFunc(a.Items, b.Items, equal)
}

// clone is a node that shares nothing with another one that is the same.
func clone(n api.Node) api.Node {
	n.Keys = slices.Clone(n.Keys)
	n.Items = slices.Clone(n.Items)
	for i := range n.Items {
		n.Items[i] = clone(n.Items[i])
	}
	return n
}

// places are all nodes of a node, itself ahead; a change of one is a change of it.
func places(n *api.Node) []*api.Node {
	out := []*api.Node{n}
	for i := range n.Items {
		out = append(out, places(&n.Items[i])...)
	}
	return out
}

// joined is the join of levels.
func joined(l *level.Lattice, levels ...int) int {
	out := l.Bottom()
	for _, a := range levels {
		out = l.Join(out, a)
	}
	return out
}

// labels are all labels of a node.
func labels(n api.Node) []int {
	out := []int{n.Label}
	for _, item := range n.Items {
		out = append(out, labels(item)...)
	}
	return out
}

// righted is a node in which each Deep is made right.
func righted(l *level.Lattice, n api.Node) api.Node {
	n.Deep = joined(l, labels(n)...)
	n.Items = slices.Clone(n.Items)
	for i := range n.Items {
		n.Items[i] = righted(l, n.Items[i])
	}
	return n
}

// isSeen says by the document's words whether a node is seen that is in nodes of these labels, and which label counts.
func isSeen(l *level.Lattice, n api.Node, a int, around []int) (int, bool) {
	label := joined(l, append(around, n.Label)...)
	return label, l.Leq(label, a)
}

// erased says by the document's words what a node is, erased, but for each Deep.
func erased(l *level.Lattice, n api.Node, a int, around ...int) api.Node {
	label, seen := isSeen(l, n, a, around)
	if !seen {
		return hole(l)
	}
	out := api.Node{Label: label, Kind: n.Kind, Num: n.Num, Str: n.Str, Keys: slices.Clone(n.Keys)}
	for _, item := range n.Items {
		out.Items = append(out.Items, erased(l, item, a, append(slices.Clone(around), n.Label)...))
	}
	return out
}

// count says by the document's words how many nodes are seen.
func count(l *level.Lattice, n api.Node, a int, around ...int) int {
	if _, seen := isSeen(l, n, a, around); !seen {
		return 0
	}
	out := 1
	for _, item := range n.Items {
		out += count(l, item, a, append(slices.Clone(around), n.Label)...)
	}
	return out
}

// swapped says by the document's words what Swap answers, but for each Deep outside m.
func swapped(l *level.Lattice, n, m api.Node, a int, around ...int) api.Node {
	if _, seen := isSeen(l, n, a, around); !seen {
		m.Label = joined(l, m.Label, n.Label)
		return m
	}
	out := n
	out.Items = nil
	for _, item := range n.Items {
		out.Items = append(out.Items, swapped(l, item, m, a, append(slices.Clone(around), n.Label)...))
	}
	return out
}

// sight is all that is seen of a node, as a text: what stands where, and the labels that count.
func sight(l *level.Lattice, n api.Node, a int, around ...int) string {
	label, seen := isSeen(l, n, a, around)
	if !seen {
		return "_"
	}
	out := fmt.Sprintf("%d:%d,%v,%q,%q", label, n.Kind, n.Num, n.Str, n.Keys)
	for _, item := range n.Items {
		out += "(" + sight(l, item, a, append(slices.Clone(around), n.Label)...) + ")"
	}
	return out
}

// someNode is a node that may be, with any labels.
func someNode(r *rand.Rand, l *level.Lattice, deep int) api.Node {
	kind := r.Intn(8)
	if deep == 0 && (kind == api.Array || kind == api.Object) {
		kind = api.Null
	}
	n := api.Node{Label: r.Intn(l.Size()), Kind: kind}
	if r.Intn(2) == 0 {
		n.Label = l.Bottom()
	}
	switch kind {
	case api.Number:
		n.Num = api.Num{Coef: r.Int63n(1000)*10 + 1 + r.Int63n(9), Scale: r.Intn(10)}
	case api.String, api.Bad:
		n.Str = []string{"", "a", "kind", "né", "#"}[r.Intn(5)]
	case api.Array:
		n.Items = make([]api.Node, r.Intn(4))
	case api.Object:
		n.Keys = []string{"", "#", "a", "b", "é"}[r.Intn(3) : 3+r.Intn(3)]
		n.Items = make([]api.Node, len(n.Keys))
	}
	n.Deep = n.Label
	for i := range n.Items {
		n.Items[i] = someNode(r, l, deep-1)
		n.Deep = l.Join(n.Deep, n.Items[i].Deep)
	}
	return n
}

// changed is a node in which one place is another one; it still may be.
func changed(r *rand.Rand, l *level.Lattice, n api.Node) api.Node {
	n = clone(n)
	all := places(&n)
	at := all[r.Intn(len(all))]
	switch r.Intn(6) {
	case 0:
		*at = text(r.Intn(l.Size()), "another")
	case 1, 2:
		at.Label = r.Intn(l.Size())
	case 3:
		*at = array(at.Label, 0, *at)
	case 4:
		at.Kind, at.Keys = api.Array, nil
		at.Num, at.Str = api.Num{}, ""
		at.Items = append(slices.Clone(at.Items), null(r.Intn(l.Size())))
	case 5:
		at.Kind, at.Keys, at.Num, at.Str = api.Object, nil, api.Num{}, ""
		for i := range at.Items {
			at.Keys = append(at.Keys, "k"+strconv.Itoa(i))
		}
	}
	return righted(l, n)
}

// small are all nodes of a few shapes, with any labels.
func small(l *level.Lattice) []api.Node {
	var leaves, out []api.Node
	for a := range l.Size() {
		leaves = append(leaves, text(a, "x"))
		out = append(out, null(a), number(a, 7), node.Wrong(a, "kind"), array(a, a), object(a, a, nil))
	}
	out = append(out, leaves...)
	for a := range l.Size() {
		for _, in := range leaves {
			out = append(out, array(a, 0, in), object(a, 0, []string{"k"}, in))
			for _, next := range leaves {
				out = append(out, array(a, 0, array(in.Label, 0, next)), array(a, 0, in, next), object(a, 0, []string{"i", "k"}, next, array(in.Label, 0, next)))
			}
		}
	}
	for i := range out {
		out[i] = righted(l, out[i])
	}
	return out
}

// strange are nodes that may not be, all of which stand at the level 0.
func strange() []api.Node {
	one, two := text(0, "1"), text(0, "2")
	out := []api.Node{
		text(0, "\xff"), {Kind: api.Number, Num: api.Num{Coef: 10, Scale: 1}}, {Str: "a"}, {Num: api.Num{Coef: 1}}, {Items: []api.Node{{}}}, {Keys: []string{""}},
		{Kind: api.String, Str: "a", Items: []api.Node{{}}, Keys: []string{"a"}}, {Kind: api.Bad, Str: "a", Items: []api.Node{{}}},
		object(0, 0, []string{"b", "a"}, two, one), object(0, 0, []string{"a"}), object(0, 0, nil, one), object(0, 0, []string{"a"}, one, two), {Kind: api.Array, Keys: []string{"a"}, Items: []api.Node{one}},
	}
	for _, kind := range []int{api.Hole, -1, 9, 256, math.MaxInt, math.MinInt} {
		out = append(out, api.Node{Kind: kind}, api.Node{Kind: kind, Str: "a", Items: []api.Node{one}})
	}
	return out
}

func wantNode(t *testing.T, title string, got, want api.Node) {
	t.Helper()
	if !equal(got, want) {
		t.Errorf("%s is %s, not %s", title, brief(got), brief(want))
	}
}
