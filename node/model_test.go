package node_test

import (
	"fmt"
	"maps"
	"math"
	"math/rand"
	"slices"
	"strconv"
	"strings"
	"testing"

	"keyhole/api"
	"keyhole/jval"
	"keyhole/level"
)

// noTexts are bytes that are no texts.
var noTexts = []string{"\xff", "\x80", "a\xc3", "\xc0\x80", "\xed\xa0\x80", "\xf4\x90\x80\x80", "abc\xe2\x82"}

// noNumbers are numbers that may not be.
var noNumbers = []api.Num{
	{Coef: 0, Scale: 1}, {Coef: 10, Scale: 1}, {Coef: 1, Scale: -1}, {Coef: 1, Scale: 10},
	{Coef: api.MaxCoef}, {Coef: -api.MaxCoef}, {Coef: math.MaxInt64}, {Coef: math.MinInt64, Scale: 9},
}

// noKinds are numbers that no value's kind has; a hole is one of them.
var noKinds = []int{api.Hole, -1, 9, 10, 256, math.MaxInt, math.MinInt}

// noLevels are numbers that are no levels, of however many levels there are.
var noLevels = []int{-1, -2, api.MaxLevels, api.MaxLevels + 1, math.MaxInt, math.MinInt}

// lattice has so many levels.
func lattice(size int, below ...[2]int) *level.Lattice {
	p := api.Policy{Below: below}
	for i := range size {
		p.Names = append(p.Names, "l"+strconv.Itoa(i))
	}
	l, e := level.New(p)
	if e != api.OK {
		panic("no lattice")
	}
	return l
}

// shapes are lattices whose bottoms and tops are at one place and at another one.
func shapes() []*level.Lattice {
	return []*level.Lattice{
		lattice(1),
		lattice(2, [2]int{0, 1}),
		lattice(2, [2]int{1, 0}),
		lattice(3, [2]int{2, 0}, [2]int{1, 2}),
		lattice(4, [2]int{2, 0}, [2]int{2, 3}, [2]int{0, 1}, [2]int{3, 1}),
		lattice(5, [2]int{0, 1}, [2]int{1, 2}, [2]int{2, 4}, [2]int{0, 3}, [2]int{3, 4}),
		lattice(8, [2]int{7, 6}, [2]int{7, 5}, [2]int{7, 3}, [2]int{6, 4}, [2]int{6, 2}, [2]int{5, 4}, [2]int{5, 1}, [2]int{3, 2}, [2]int{3, 1}, [2]int{4, 0}, [2]int{2, 0}, [2]int{1, 0}),
	}
}

// chain has the levels 0, 1, 2, each below the next one.
func chain() *level.Lattice { return lattice(3, [2]int{0, 1}, [2]int{1, 2}) }

// sides has the levels 0 and 3, and between them 1 and 2, side by side.
func sides() *level.Lattice {
	return lattice(4, [2]int{0, 1}, [2]int{0, 2}, [2]int{1, 3}, [2]int{2, 3})
}

// leaf is a node without items.
func leaf(a int, v api.Value) api.Node {
	return api.Node{Label: a, Deep: a, Kind: v.Kind, Num: v.Num, Str: v.Str, Keys: v.Keys}
}

func null(a int) api.Node { return leaf(a, api.Value{}) }

func text(a int, s string) api.Node { return leaf(a, jval.Text(s)) }

func bad(a int, s string) api.Node { return leaf(a, jval.Wrong(s)) }

func array(a, deep int, items ...api.Node) api.Node {
	return api.Node{Label: a, Deep: deep, Kind: api.Array, Items: items}
}

func object(a, deep int, keys []string, items ...api.Node) api.Node {
	return api.Node{Label: a, Deep: deep, Kind: api.Object, Items: items, Keys: keys}
}

// brief is what a test tells of something, cut where it is long.
func brief(v any) string {
	s := fmt.Sprintf("%+q", v)
	if len(s) > 300 {
		s = fmt.Sprintf("%s.. (%d bytes)", s[:300], len(s))
	}
	return s
}

// equal says by the document's words whether all fields are the same, of nodes that are neither deep nor shared often.
func equal(a, b api.Node) bool {
	same := a.Label == b.Label && a.Deep == b.Deep && a.Kind == b.Kind && a.Num == b.Num && a.Str == b.Str
	return same && slices.Equal(a.Keys, b.Keys) && slices.EqualFunc(a.Items, b.Items, equal)
}

// equalValue says so of values.
func equalValue(a, b api.Value) bool {
	same := a.Kind == b.Kind && a.Num == b.Num && a.Str == b.Str
	return same && slices.Equal(a.Keys, b.Keys) && slices.EqualFunc(a.Items, b.Items, equalValue)
}

// marked says by the document's words what a value with a Label is.
func marked(l *level.Lattice, v api.Value, a int) api.Node {
	n := api.Node{Label: a, Deep: a, Kind: v.Kind, Num: v.Num, Str: v.Str, Keys: slices.Clone(v.Keys)}
	for _, item := range v.Items {
		n.Items = append(n.Items, marked(l, item, l.Bottom()))
	}
	return n
}

// stripped says by the document's words what a node without labels is, and how many values that has.
func stripped(n api.Node) (api.Value, int) {
	v := api.Value{Kind: n.Kind, Num: n.Num, Str: n.Str, Keys: slices.Clone(n.Keys)}
	count := 1
	for _, item := range n.Items {
		w, more := stripped(item)
		v.Items = append(v.Items, w)
		count += more
	}
	return v, count
}

// labels are all labels of a node.
func labels(n api.Node) []int {
	out := []int{n.Label}
	for _, item := range n.Items {
		out = append(out, labels(item)...)
	}
	return out
}

// joined is the join of levels.
func joined(l *level.Lattice, levels ...int) int {
	out := l.Bottom()
	for _, a := range levels {
		out = l.Join(out, a)
	}
	return out
}

// mayBe says by the document's words whether a node may be; of each part it asks layer 5 about a value that has nulls as its items.
func mayBe(l *level.Lattice, n api.Node) bool {
	for _, a := range labels(n) {
		if !l.Is(a) {
			return false
		}
	}
	if n.Deep != joined(l, labels(n)...) {
		return false
	}
	v := api.Value{Kind: n.Kind, Num: n.Num, Str: n.Str, Keys: n.Keys, Items: make([]api.Value, len(n.Items))}
	return jval.Is(v) && !slices.ContainsFunc(n.Items, func(item api.Node) bool { return !mayBe(l, item) })
}

// clone is a node that shares nothing with another one that is the same.
func clone(n api.Node) api.Node {
	n.Keys = slices.Clone(n.Keys)
	n.Items = slices.Clone(n.Items)
	for i := range n.Items {
		n.Items[i] = clone(n.Items[i])
	}
	return n
}

// places are all nodes of a node, itself ahead; a change of one is a change of it.
func places(n *api.Node) []*api.Node {
	out := []*api.Node{n}
	for i := range n.Items {
		out = append(out, places(&n.Items[i])...)
	}
	return out
}

// nest is a node that so many arrays, or objects, of one level are around.
func nest(n api.Node, count int) api.Node {
	for i := range count {
		if i%3 == 2 {
			n = object(n.Label, n.Deep, []string{"a"}, n)
		} else {
			n = array(n.Label, n.Deep, n)
		}
	}
	return n
}

// double is a node that is twice in an array, which is twice in one, and so on, so many times; all share what is in them.
func double(n api.Node, count int) api.Node {
	for range count {
		n = array(n.Label, n.Deep, n, n)
	}
	return n
}

// ring is a node that is so many deep in itself.
func ring(a, n int) api.Node {
	items := make([]api.Node, n)
	for i := range n {
		next := (i + 1) % n
		items[i] = array(a, a, items[next:next+1:next+1]...)
	}
	return items[0]
}

// nestValue, doubleValue and ringValue are the like of values.
func nestValue(v api.Value, count int) api.Value {
	for range count {
		v = jval.List(v)
	}
	return v
}

func doubleValue(v api.Value, count int) api.Value {
	for range count {
		v = jval.List(v, v)
	}
	return v
}

func ringValue(n int) api.Value {
	items := make([]api.Value, n)
	for i := range n {
		next := (i + 1) % n
		items[i] = jval.List(items[next : next+1 : next+1]...)
	}
	return items[0]
}

func word(r *rand.Rand) string {
	return strings.Repeat(string(rune('a'+r.Intn(3))), r.Intn(3)) + string([]rune{'x', '\u00e9', '\u20ac', '\U0001d11e'}[r.Intn(4)])
}

// someValue is a value that may be, but for bad ones in it, of at most so many values within one another.
func someValue(r *rand.Rand, deep int) api.Value {
	kind := r.Intn(8)
	if deep == 0 && (kind == api.Array || kind == api.Object) {
		kind = api.Null
	}
	v := api.Value{Kind: kind}
	switch kind {
	case api.Number:
		v.Num = api.Num{Coef: r.Int63n(1000)*10 + 1 + r.Int63n(9), Scale: r.Intn(10)}
	case api.String, api.Bad:
		v.Str = word(r)
	case api.Array:
		for range r.Intn(4) {
			v.Items = append(v.Items, someValue(r, deep-1))
		}
	case api.Object:
		keys := map[string]struct{}{}
		for range r.Intn(4) {
			keys[word(r)] = struct{}{}
		}
		v.Keys = slices.Sorted(maps.Keys(keys))
		for range v.Keys {
			v.Items = append(v.Items, someValue(r, deep-1))
		}
	}
	return v
}

// someNode is a node that may be, with any labels.
func someNode(r *rand.Rand, l *level.Lattice, deep int) api.Node {
	n := marked(l, someValue(r, deep), l.Bottom())
	label(r, l, &n)
	return n
}

// label gives a node any labels, and each Deep that is right.
func label(r *rand.Rand, l *level.Lattice, n *api.Node) {
	n.Label = r.Intn(l.Size())
	n.Deep = n.Label
	for i := range n.Items {
		label(r, l, &n.Items[i])
		n.Deep = l.Join(n.Deep, n.Items[i].Deep)
	}
}

// spoil turns something in a node, so that another one is there.
func spoil(r *rand.Rand, n *api.Node) {
	all := places(n)
	at := all[r.Intn(len(all))]
	switch r.Intn(7) {
	case 0:
		at.Kind = noKinds[r.Intn(len(noKinds))]
	case 1:
		at.Num = noNumbers[r.Intn(len(noNumbers))]
	case 2:
		at.Str += noTexts[r.Intn(len(noTexts))]
	case 3:
		at.Keys = append(slices.Clone(at.Keys), "")
	case 4:
		at.Items = append(slices.Clone(at.Items), api.Node{Kind: api.Hole})
	case 5:
		at.Label += 1 + r.Intn(3)
	case 6:
		at.Deep -= 1 + r.Intn(3)
	}
}

// strange are nodes that may not be, but for their labels, no two of them the same.
func strange() []api.Node {
	one, two := text(0, "1"), text(0, "2")
	out := []api.Node{
		text(0, "\xff"), text(0, "\xfe"), bad(0, "\xff"), {Kind: api.Number, Num: api.Num{Coef: 10, Scale: 1}}, {Kind: api.Number, Num: api.Num{Scale: 1}},
		{Str: "a"}, {Num: api.Num{Coef: 1}}, {Num: api.Num{Scale: 1}}, {Items: []api.Node{{}}}, {Items: []api.Node{{}, {}}}, {Keys: []string{""}}, {Keys: []string{"a"}}, {Keys: []string{"", ""}},
		{Kind: api.String, Str: "a", Items: []api.Node{{}}}, {Kind: api.String, Str: "a", Keys: []string{"a"}}, {Kind: api.Number, Num: api.Num{Coef: 1}, Str: "a"}, {Kind: api.Bad, Str: "a", Items: []api.Node{{}}},
		object(0, 0, []string{"b", "a"}, two, one), object(0, 0, []string{"a", "a"}, one, two), object(0, 0, []string{"a"}), object(0, 0, nil, one),
		object(0, 0, []string{"a"}, one, two), object(0, 0, []string{"a", "b"}, one), {Kind: api.Array, Keys: []string{"a"}, Items: []api.Node{one}}, object(0, 0, []string{"\xff"}, one),
	}
	for _, kind := range noKinds {
		out = append(out, api.Node{Kind: kind}, api.Node{Kind: kind, Str: "a"}, api.Node{Kind: kind, Items: []api.Node{{}}})
	}
	return out
}

// right are nodes that may be, at the level 0, no two of them the same.
func right() []api.Node {
	return []api.Node{
		null(0), leaf(0, jval.Truth(false)), leaf(0, jval.Truth(true)), leaf(0, jval.Int(0)), leaf(0, jval.Int(-7)), {Kind: api.Number, Num: api.Num{Coef: 1, Scale: 9}}, {Kind: api.Number, Num: api.Num{Coef: 1 - api.MaxCoef}},
		text(0, ""), text(0, "a"), text(0, "\x00\"\\"), text(0, "h\u00e9\u20ac\U0001d11e"), bad(0, ""), bad(0, "kind"), bad(0, "h\u00e9"),
		array(0, 0), array(0, 0, null(0)), array(0, 0, null(0), null(0)), array(0, 0, bad(0, "kind")), array(0, 0, array(0, 0, bad(0, "")), text(0, "b")), array(0, 0, array(0, 0, array(0, 0))),
		object(0, 0, nil), object(0, 0, []string{""}, null(0)), object(0, 0, []string{"a"}, null(0)), object(0, 0, []string{"a"}, bad(0, "kind")), object(0, 0, []string{"#", "A", "a", "aa"}, null(0), null(0), array(0, 0), object(0, 0, nil)),
		nest(text(0, "a"), api.MaxDepth), nest(text(0, "a"), api.MaxDepth+1), nest(array(0, 0), 100), nest(bad(0, "a"), 100),
	}
}

func wantNode(t *testing.T, title string, got, want api.Node) {
	t.Helper()
	if !equal(got, want) {
		t.Errorf("%s is %s, not %s", title, brief(got), brief(want))
	}
}

func wantValue(t *testing.T, title string, got, want api.Value) {
	t.Helper()
	if !equalValue(got, want) {
		t.Errorf("%s is %s, not %s", title, brief(got), brief(want))
	}
}
