package envelope_test

import (
	"fmt"
	"maps"
	"math/rand"
	"slices"
	"strconv"
	"strings"
	"testing"

	"keyhole/api"
	"keyhole/jtext"
	"keyhole/jval"
	"keyhole/level"
	"keyhole/node"
)

// lattice has levels of these names.
func lattice(names []string, below ...[2]int) *level.Lattice {
	l, e := level.New(api.Policy{Names: names, Below: below})
	if e != api.OK {
		panic("no lattice")
	}
	return l
}

func lowHigh() *level.Lattice { return lattice([]string{"low", "high"}, [2]int{0, 1}) }

// sides has the levels low and top, and between them a and b, side by side.
func sides() *level.Lattice {
	return lattice([]string{"low", "a", "b", "top"}, [2]int{0, 1}, [2]int{0, 2}, [2]int{1, 3}, [2]int{2, 3})
}

// shapes are lattices whose bottoms and tops are at one place and at another one.
func shapes() []*level.Lattice {
	return []*level.Lattice{
		lattice([]string{"only"}),
		lowHigh(),
		lattice([]string{"high", "low"}, [2]int{1, 0}),
		lattice([]string{"mid", "low", "high"}, [2]int{2, 1}, [2]int{0, 2}),
		sides(),
		lattice([]string{"b", "top", "low", "a"}, [2]int{2, 0}, [2]int{2, 3}, [2]int{0, 1}, [2]int{3, 1}),
		lattice([]string{"l0", "l1", "l2", "l3", "l4", "l5", "l6", strings.Repeat("l", api.MaxName)}, [2]int{7, 6}, [2]int{7, 5}, [2]int{7, 3}, [2]int{6, 4}, [2]int{6, 2}, [2]int{5, 4}, [2]int{5, 1}, [2]int{3, 2}, [2]int{3, 1}, [2]int{4, 0}, [2]int{2, 0}, [2]int{1, 0}),
	}
}

// brief is what a test tells of something, cut where it is long.
func brief(v any) string {
	s := fmt.Sprintf("%+q", v)
	if len(s) > 300 {
		s = fmt.Sprintf("%s.. (%d bytes)", s[:300], len(s))
	}
	return s
}

// parse is the value of a text of JSON.
func parse(s string) api.Value {
	v, at, e := jtext.Parse([]byte(s))
	if e != api.OK {
		panic("no JSON, at " + strconv.Itoa(at) + ": " + s)
	}
	return v
}

// object is an object with any keys, in order or not.
func object(keys []string, items ...api.Value) api.Value {
	return api.Value{Kind: api.Object, Keys: keys, Items: items}
}

// sealed is a value in an envelope.
func sealed(name string, v api.Value) api.Value {
	return object([]string{"#", "="}, jval.Text(name), v)
}

func null(a int) api.Node { return api.Node{Label: a, Deep: a} }

func text(a int, s string) api.Node {
	return api.Node{Label: a, Deep: a, Kind: api.String, Str: s}
}

func number(a int, n int64) api.Node {
	return api.Node{Label: a, Deep: a, Kind: api.Number, Num: api.Num{Coef: n}}
}

func nodes(a, deep int, items ...api.Node) api.Node {
	return api.Node{Label: a, Deep: deep, Kind: api.Array, Items: items}
}

func fields(a, deep int, keys []string, items ...api.Node) api.Node {
	return api.Node{Label: a, Deep: deep, Kind: api.Object, Items: items, Keys: keys}
}

// nestValue, doubleValue and ringValue are a value that so many arrays are around; one that is twice in an array, which is twice in one, and so on; an array that is so many deep in itself.
func nestValue(v api.Value, count int) api.Value {
	for range count {
		v = jval.List(v)
	}
	return v
}

func doubleValue(v api.Value, count int) api.Value {
	for range count {
		v = jval.List(v, v)
	}
	return v
}

func ringValue(n int) api.Value {
	items := make([]api.Value, n)
	for i := range n {
		next := (i + 1) % n
		items[i] = jval.List(items[next : next+1 : next+1]...)
	}
	return items[0]
}

// nest, double and ring are the like of nodes, all of one level.
func nest(n api.Node, count int) api.Node {
	for range count {
		n = nodes(n.Label, n.Deep, n)
	}
	return n
}

func double(n api.Node, count int) api.Node {
	for range count {
		n = nodes(n.Label, n.Deep, n, n)
	}
	return n
}

func ring(n int) api.Node {
	items := make([]api.Node, n)
	for i := range n {
		next := (i + 1) % n
		items[i] = nodes(0, 0, items[next:next+1:next+1]...)
	}
	return items[0]
}

// cloneValue is a value that shares nothing with another one that is the same.
func cloneValue(v api.Value) api.Value {
	v.Keys, v.Items = slices.Clone(v.Keys), slices.Clone(v.Items)
	for i := range v.Items {
		v.Items[i] = cloneValue(v.Items[i])
	}
	return v
}

func clone(n api.Node) api.Node {
	n.Keys, n.Items = slices.Clone(n.Keys), slices.Clone(n.Items)
	for i := range n.Items {
		n.Items[i] = clone(n.Items[i])
	}
	return n
}

// valuesOf are all values of a value, from the outside in, and the items in order.
func valuesOf(v *api.Value) []*api.Value {
	out := []*api.Value{v}
	for i := range v.Items {
		out = append(out, valuesOf(&v.Items[i])...)
	}
	return out
}

// nodesOf are all nodes of a node.
func nodesOf(n *api.Node) []*api.Node {
	out := []*api.Node{n}
	for i := range n.Items {
		out = append(out, nodesOf(&n.Items[i])...)
	}
	return out
}

// isEnvelope says by the document's words whether a value that may be is one.
func isEnvelope(v api.Value) bool {
	name, hasName := jval.Get(v, "#")
	_, hasInside := jval.Get(v, "=")
	return hasName && hasInside && len(v.Keys) == 2 && name.Kind == api.String
}

// faultOf says by the document's words what is wrong with a value, whatever is in it.
func faultOf(l *level.Lattice, v api.Value) api.Errno {
	if isEnvelope(v) {
		name, _ := jval.Get(v, "#")
		if _, ok := l.Find(name.Str); !ok {
			return api.ErrName
		}
		return api.OK
	}
	for _, k := range v.Keys {
		if k == "#" || strings.HasPrefix(k, "#") && !strings.HasPrefix(k, "##") {
			return api.ErrForm
		}
	}
	return api.OK
}

// wrongOf says by the document's words what Decode's error is.
func wrongOf(l *level.Lattice, v api.Value) api.Errno {
	if !jval.Is(v) || v.Kind == api.Bad {
		return api.ErrKind
	}
	for _, in := range valuesOf(&v) {
		if e := faultOf(l, *in); e != api.OK {
			return e
		}
	}
	return api.OK
}

// oneLess is a key with one # less, if it begins with two.
func oneLess(k string) string {
	if strings.HasPrefix(k, "##") {
		return k[1:]
	}
	return k
}

// nodeOf says by the document's words what the node of a value is with which nothing is wrong.
func nodeOf(l *level.Lattice, v api.Value) api.Node {
	if isEnvelope(v) {
		name, _ := jval.Get(v, "#")
		inside, _ := jval.Get(v, "=")
		a, _ := l.Find(name.Str)
		return node.Raise(l, nodeOf(l, inside), a)
	}
	n := api.Node{Label: l.Bottom(), Deep: l.Bottom(), Kind: v.Kind, Num: v.Num, Str: v.Str}
	for _, k := range v.Keys {
		n.Keys = append(n.Keys, oneLess(k))
	}
	for _, item := range v.Items {
		in := nodeOf(l, item)
		n.Items = append(n.Items, in)
		n.Deep = l.Join(n.Deep, in.Deep)
	}
	return n
}

// valueOf says by the document's words what a node is encoded as, so far as it can be.
func valueOf(l *level.Lattice, n api.Node) api.Value {
	v := api.Value{Kind: n.Kind, Num: n.Num, Str: n.Str}
	for i, item := range n.Items {
		v.Items = append(v.Items, valueOf(l, item))
		if n.Kind == api.Object && n.Keys[i] != "" && n.Keys[i][0] == '#' {
			v.Keys = append(v.Keys, "#"+n.Keys[i])
		} else if n.Kind == api.Object {
			v.Keys = append(v.Keys, n.Keys[i])
		}
	}
	if n.Label == l.Bottom() {
		return v
	}
	return sealed(l.Text(n.Label), v)
}

// wantedOf says by the document's words what Encode answers.
func wantedOf(l *level.Lattice, n api.Node) (api.Value, api.Errno) {
	if !node.Is(l, n) {
		return api.Value{}, api.ErrKind
	}
	for _, in := range nodesOf(&n) {
		if in.Kind == api.Bad {
			return api.Value{}, api.ErrKind
		}
	}
	v := valueOf(l, n)
	if depth(v) > api.MaxDepth {
		return api.Value{}, api.ErrKind
	}
	return v, api.OK
}

// depth is how deep a value is nested.
func depth(v api.Value) int {
	out := 0
	for _, item := range v.Items {
		out = max(out, 1+depth(item))
	}
	return out
}

// counted is what a value, or a node, has in it, in order: each thing without its items, and the label that counts.
type counted struct {
	leaf  api.Value
	keys  string
	label int
}

// countedOfValue reads the labels off the envelopes.
func countedOfValue(l *level.Lattice, v api.Value, label int) []counted {
	if isEnvelope(v) {
		a, _ := l.Find(v.Items[0].Str)
		return countedOfValue(l, v.Items[1], l.Join(label, a))
	}
	leaf := api.Value{Kind: v.Kind, Num: v.Num, Str: v.Str}
	keys := make([]string, len(v.Keys))
	for i, k := range v.Keys {
		keys[i] = oneLess(k)
	}
	out := []counted{{leaf, strings.Join(keys, "\x00"), label}}
	for _, item := range v.Items {
		out = append(out, countedOfValue(l, item, label)...)
	}
	return out
}

func countedOfNode(l *level.Lattice, n api.Node, label int) []counted {
	label = l.Join(label, n.Label)
	out := []counted{{node.Leaf(n), strings.Join(n.Keys, "\x00"), label}}
	for _, item := range n.Items {
		out = append(out, countedOfNode(l, item, label)...)
	}
	return out
}

func sameCounted(a, b []counted) bool {
	return slices.EqualFunc(a, b, func(x, y counted) bool {
		return jval.Same(x.leaf, y.leaf) && x.keys == y.keys && x.label == y.label
	})
}

func word(r *rand.Rand) string {
	return strings.Repeat("#", r.Intn(4)) + []string{"", "!", "a", "=", "é"}[r.Intn(5)]
}

// keysOf are up to three keys that rise, each turned by some function.
func keysOf(r *rand.Rand, turn func(string) string) []string {
	keys := map[string]struct{}{}
	for range r.Intn(4) {
		keys[turn(word(r))] = struct{}{}
	}
	return slices.Sorted(maps.Keys(keys))
}

// someValue is a value that can be decoded, of at most so many values within one another.
func someValue(r *rand.Rand, l *level.Lattice, deep int) api.Value {
	if deep > 0 && r.Intn(3) == 0 {
		return sealed(l.Text(r.Intn(l.Size())), someValue(r, l, deep-1))
	}
	kind := r.Intn(7)
	if deep == 0 {
		kind = r.Intn(5)
	}
	v := api.Value{Kind: kind}
	switch kind {
	case api.Number:
		v.Num = api.Num{Coef: r.Int63n(1000)*10 + 1 + r.Int63n(9), Scale: r.Intn(10)}
	case api.String:
		v.Str = word(r)
	case api.Array:
		v.Items = make([]api.Value, r.Intn(4))
	case api.Object:
		v.Keys = keysOf(r, func(k string) string { return strings.Replace(k, "#", "##", 1) })
		v.Items = make([]api.Value, len(v.Keys))
	}
	for i := range v.Items {
		v.Items[i] = someValue(r, l, deep-1)
	}
	return v
}

// spoilValue turns something in a value, so that another one is there, right or wrong.
func spoilValue(r *rand.Rand, v *api.Value) {
	all := valuesOf(v)
	at := all[r.Intn(len(all))]
	switch r.Intn(8) {
	case 0:
		at.Str += "\xff"
	case 1:
		*at = jval.Wrong("kind")
	case 2:
		*at = sealed([]string{"", "none", "LOW", "low"}[r.Intn(4)], cloneValue(*at))
	case 3:
		*at = object([]string{"#"}, jval.Text("low"))
	case 4:
		*at = object([]string{"#", "="}, jval.Int(1), cloneValue(*at))
	case 5, 6:
		*at = jval.Put(*at, word(r), jval.Text("low"))
	case 7:
		at.Kind = r.Intn(9)
	}
}

// someNode is a node that may be, without bad ones.
func someNode(r *rand.Rand, l *level.Lattice, deep int) api.Node {
	kind := r.Intn(7)
	if deep == 0 {
		kind = r.Intn(5)
	}
	n := api.Node{Label: l.Bottom(), Kind: kind}
	if r.Intn(2) == 0 {
		n.Label = r.Intn(l.Size())
	}
	n.Deep = n.Label
	switch kind {
	case api.Number:
		n.Num = api.Num{Coef: r.Int63n(1000)*10 + 1 + r.Int63n(9), Scale: r.Intn(10)}
	case api.String:
		n.Str = word(r)
	case api.Array:
		n.Items = make([]api.Node, r.Intn(4))
	case api.Object:
		n.Keys = keysOf(r, func(k string) string { return k })
		n.Items = make([]api.Node, len(n.Keys))
	}
	for i := range n.Items {
		n.Items[i] = someNode(r, l, deep-1)
		n.Deep = l.Join(n.Deep, n.Items[i].Deep)
	}
	return n
}

// spoil turns something in a node, so that another one is there, right or wrong.
func spoil(r *rand.Rand, n *api.Node) {
	all := nodesOf(n)
	at := all[r.Intn(len(all))]
	switch r.Intn(8) {
	case 0:
		at.Str += "\xff"
	case 1:
		*at = node.Wrong(at.Deep, "kind")
	case 2:
		at.Label += r.Intn(5) - 2
	case 3:
		at.Deep += r.Intn(5) - 2
	case 4:
		at.Kind = r.Intn(9)
	case 5:
		at.Keys = append(slices.Clone(at.Keys), word(r))
	case 6:
		at.Items = append(slices.Clone(at.Items), api.Node{Label: at.Deep, Deep: at.Deep, Kind: r.Intn(9)})
	case 7:
		at.Num.Scale++
	}
}

func wantNode(t *testing.T, title string, got, want api.Node) {
	t.Helper()
	if !node.Same(got, want) {
		t.Errorf("%s is %s, not %s", title, brief(got), brief(want))
	}
}

func wantValue(t *testing.T, title string, got, want api.Value) {
	t.Helper()
	if !jval.Same(got, want) {
		t.Errorf("%s is %s, not %s", title, brief(got), brief(want))
	}
}
