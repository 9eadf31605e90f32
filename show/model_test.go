package show_test

import (
	"bytes"
	"encoding/json"
	"fmt"
	"math"
	"math/rand"
	"slices"
	"strings"

	"keyhole/api"
	"keyhole/level"
	"keyhole/node"
	"keyhole/num"
)

// lattice has levels of these names.
func lattice(names []string, below ...[2]int) *level.Lattice {
	l, e := level.New(api.Policy{Names: names, Below: below})
	if e != api.OK {
		panic("no lattice")
	}
	return l
}

func lowHigh() *level.Lattice { return lattice([]string{"low", "high"}, [2]int{0, 1}) }

// chain has the levels low, mid and high, each below the next one.
func chain() *level.Lattice {
	return lattice([]string{"low", "mid", "high"}, [2]int{0, 1}, [2]int{1, 2})
}

// sides has the levels low and top, and between them a and b, side by side.
func sides() *level.Lattice {
	return lattice([]string{"low", "a", "b", "top"}, [2]int{0, 1}, [2]int{0, 2}, [2]int{1, 3}, [2]int{2, 3})
}

// shapes are lattices whose bottoms and tops are at one place and at another one.
func shapes() []*level.Lattice {
	return []*level.Lattice{
		lattice([]string{"only"}),
		lowHigh(),
		lattice([]string{"high", "low"}, [2]int{1, 0}),
		chain(),
		sides(),
		lattice([]string{"b", "top", "low", "a"}, [2]int{2, 0}, [2]int{2, 3}, [2]int{0, 1}, [2]int{3, 1}),
		lattice([]string{"l0", "l1", "l2", "l3", "l4", "l5", "l6", strings.Repeat("l", api.MaxName)}, [2]int{7, 6}, [2]int{7, 5}, [2]int{7, 3}, [2]int{6, 4}, [2]int{6, 2}, [2]int{5, 4}, [2]int{5, 1}, [2]int{3, 2}, [2]int{3, 1}, [2]int{4, 0}, [2]int{2, 0}, [2]int{1, 0}),
	}
}

// noLevels are numbers that are no levels, of a lattice of any size.
func noLevels(l *level.Lattice) []int {
	return []int{-1, -2, l.Size(), api.MaxLevels, api.MaxLevels + 1, math.MaxInt, math.MinInt}
}

func leaf(a, kind int) api.Node { return api.Node{Label: a, Deep: a, Kind: kind} }

func text(a int, s string) api.Node {
	return api.Node{Label: a, Deep: a, Kind: api.String, Str: s}
}

func number(a int, coef int64, scale int) api.Node {
	return api.Node{Label: a, Deep: a, Kind: api.Number, Num: api.Num{Coef: coef, Scale: scale}}
}

func array(l *level.Lattice, a int, items ...api.Node) api.Node { return node.Array(l, a, items) }

// object has what stands behind each key; keys rise.
func object(l *level.Lattice, a int, keys string, items ...api.Node) api.Node {
	return node.Object(l, a, strings.Fields(keys), items)
}

// nest is a node that so many arrays are around, each of which has one more item behind it.
func nest(l *level.Lattice, n api.Node, count int) api.Node {
	for range count {
		n = array(l, l.Bottom(), n, leaf(l.Bottom(), api.True))
	}
	return n
}

// double is a node that is twice in an array, which is twice in one, and so on; all share what is in them.
func double(l *level.Lattice, n api.Node, count int) api.Node {
	for range count {
		n = array(l, l.Bottom(), n, n)
	}
	return n
}

// ring is an array that is so many deep in itself.
func ring(a, n int) api.Node {
	items := make([]api.Node, n)
	for i := range n {
		next := (i + 1) % n
		items[i] = api.Node{Label: a, Deep: a, Kind: api.Array, Items: items[next : next+1 : next+1]}
	}
	return items[0]
}

// brief is what a test tells of something, cut where it is long.
func brief(v any) string {
	s := fmt.Sprintf("%+q", v)
	if len(s) > 300 {
		s = fmt.Sprintf("%s.. (%d bytes)", s[:300], len(s))
	}
	return s
}

// quoted says by RFC 8259, and by which escapes layer 3 takes, how a text stands in JSON.
func quoted(s string) string {
	out := []byte{'"'}
	short := map[byte]string{'"': `\"`, '\\': `\\`, 8: `\b`, 9: `\t`, 10: `\n`, 12: `\f`, 13: `\r`}
	for i := range len(s) {
		if e, ok := short[s[i]]; ok {
			out = append(out, e...)
		} else if s[i] < 32 {
			out = fmt.Appendf(out, `\u%04x`, s[i])
		} else {
			out = append(out, s[i])
		}
	}
	return string(append(out, '"'))
}

// shown says by the document's words what is shown of a node that is in nodes whose labels are joined as under.
func shown(l *level.Lattice, n api.Node, a, under int) string {
	counts := l.Join(under, n.Label)
	if !l.Leq(counts, a) {
		return `{"#":null}`
	}
	var items []string
	for i, item := range n.Items {
		s := shown(l, item, a, counts)
		if n.Kind == api.Object {
			key := n.Keys[i]
			if strings.HasPrefix(key, "#") {
				key = "#" + key
			}
			s = quoted(key) + ":" + s
		}
		items = append(items, s)
	}
	body := []string{
		"null", "false", "true", num.Text(n.Num), quoted(n.Str),
		"[" + strings.Join(items, ",") + "]", "{" + strings.Join(items, ",") + "}",
		`{"#!":` + quoted(n.Str) + "}",
	}[n.Kind]
	if counts == under {
		return body
	}
	return `{"#":` + quoted(l.Text(counts)) + `,"=":` + body + "}"
}

// back is what is erased, read from what is shown of it: so nothing else can be shown the same.
func back(l *level.Lattice, s string) (api.Node, error) {
	d := json.NewDecoder(strings.NewReader(s))
	d.UseNumber()
	var v any
	if err := d.Decode(&v); err != nil {
		return api.Node{}, err
	}
	if tight := new(bytes.Buffer); json.Compact(tight, []byte(s)) != nil || tight.String() != s {
		return api.Node{}, fmt.Errorf("there are blanks, or more than one value")
	}
	return read(l, v, l.Bottom())
}

// read is what is erased, of what is shown of it under a label.
func read(l *level.Lattice, v any, under int) (api.Node, error) {
	switch v := v.(type) {
	case nil:
		return leaf(under, api.Null), nil
	case bool:
		if v {
			return leaf(under, api.True), nil
		}
		return leaf(under, api.False), nil
	case json.Number:
		n, e := num.Parse(v.String())
		if e != api.OK || num.Text(n) != v.String() {
			return api.Node{}, fmt.Errorf("the number %s", v)
		}
		return api.Node{Label: under, Deep: under, Kind: api.Number, Num: n}, nil
	case string:
		return text(under, v), nil
	case []any:
		items, err := readAll(l, v, under)
		return array(l, under, items...), err
	case map[string]any:
		return readObject(l, v, under)
	}
	return api.Node{}, fmt.Errorf("strange: %v", v)
}

func readAll(l *level.Lattice, all []any, under int) ([]api.Node, error) {
	var items []api.Node
	for _, v := range all {
		n, err := read(l, v, under)
		if err != nil {
			return nil, err
		}
		items = append(items, n)
	}
	return items, nil
}

func readObject(l *level.Lattice, v map[string]any, under int) (api.Node, error) {
	if name, ok := v["#"]; ok {
		return readEnvelope(l, v, name, under)
	}
	if s, ok := v["#!"].(string); ok && len(v) == 1 {
		return node.Wrong(under, s), nil
	}
	var written, keys []string
	for k := range v {
		written = append(written, k)
	}
	slices.Sort(written)
	var in []any
	for _, k := range written {
		in = append(in, v[k])
		if strings.HasPrefix(k, "#") {
			if !strings.HasPrefix(k, "##") {
				return api.Node{}, fmt.Errorf("the key %s", k)
			}
			k = k[1:]
		}
		keys = append(keys, k)
	}
	items, err := readAll(l, in, under)
	return node.Object(l, under, keys, items), err
}

func readEnvelope(l *level.Lattice, v map[string]any, name any, under int) (api.Node, error) {
	if name == nil && len(v) == 1 {
		return leaf(l.Top(), api.Hole), nil
	}
	s, _ := name.(string)
	a, found := l.Find(s)
	in, has := v["="]
	if !found || !has || len(v) != 2 || a == under || !l.Leq(under, a) {
		return api.Node{}, fmt.Errorf("no envelope: %v", v)
	}
	return read(l, in, a)
}

// texts are strings that might be taken for something else.
func texts() []string {
	return []string{"", "a", "#", "=", "#!", "##", `{"#":null}`, "\"", "\\", "\x00\x1f\x7f\b\t\n\f\r", "né", "\u2028\U0001d11e", "null", "1"}
}

// someNode is a node that may be, with any labels.
func someNode(r *rand.Rand, l *level.Lattice, deep int) api.Node {
	kind := r.Intn(8)
	if deep == 0 && (kind == api.Array || kind == api.Object) {
		kind = api.Number
	}
	a := r.Intn(l.Size())
	if r.Intn(2) == 0 {
		a = l.Bottom()
	}
	switch kind {
	case api.Number:
		n := num.Text(api.Num{Coef: r.Int63n(2*api.MaxCoef-1) - api.MaxCoef + 1})
		made, _ := num.Parse(n[:1+r.Intn(len(n))] + "0")
		return api.Node{Label: a, Deep: a, Kind: kind, Num: made}
	case api.String, api.Bad:
		return api.Node{Label: a, Deep: a, Kind: kind, Str: texts()[r.Intn(len(texts()))]}
	case api.Array:
		return array(l, a, someNodes(r, l, r.Intn(4), deep-1)...)
	case api.Object:
		keys := texts()
		r.Shuffle(len(keys), func(i, j int) { keys[i], keys[j] = keys[j], keys[i] })
		keys = keys[:r.Intn(4)]
		slices.Sort(keys)
		return node.Object(l, a, keys, someNodes(r, l, len(keys), deep-1))
	}
	return leaf(a, kind)
}

func someNodes(r *rand.Rand, l *level.Lattice, count, deep int) []api.Node {
	var out []api.Node
	for range count {
		out = append(out, someNode(r, l, deep))
	}
	return out
}

// small are nodes of all kinds, and some that have one or two of these in them, with any labels.
func small(l *level.Lattice) []api.Node {
	var leaves, out []api.Node
	for a := range l.Size() {
		leaves = append(leaves, leaf(a, api.Null), text(a, "#"), node.Wrong(a, "#"))
		out = append(out, leaf(a, api.False), leaf(a, api.True), number(a, -5, 1), array(l, a), object(l, a, ""), text(a, ""), node.Wrong(a, ""))
	}
	for a := range l.Size() {
		for _, in := range leaves {
			out = append(out, array(l, a, in), array(l, a, array(l, a, in)), object(l, a, "a", in), object(l, a, "#", in), object(l, a, "#!", in), object(l, a, "##", in), object(l, a, "a", array(l, l.Bottom(), in)))
			for _, next := range leaves {
				out = append(out, array(l, a, in, next), object(l, a, "# =", in, next))
			}
		}
	}
	return append(out, leaves...)
}

// strange are nodes that may not be, whatever the lattice, all of which stand at one level.
func strange(a int) []api.Node {
	one := leaf(a, api.True)
	in := func(n api.Node) api.Node {
		n.Label, n.Deep = a, a
		return n
	}
	out := []api.Node{
		text(a, "\xff"), text(a, "\xc0\x80"), text(a, "\xed\xa0\x80"), number(a, 10, 1), number(a, 1, api.MaxScale+1), number(a, 1, -1), number(a, api.MaxCoef, 0), number(a, -api.MaxCoef, 0), number(a, math.MinInt64, 0), node.Wrong(a, "a\x80"),
		in(api.Node{Str: "a"}), in(api.Node{Num: api.Num{Coef: 1}}), in(api.Node{Items: []api.Node{one}}), in(api.Node{Keys: []string{""}}),
		in(api.Node{Kind: api.String, Items: []api.Node{one}, Keys: []string{"a"}}), in(api.Node{Kind: api.Bad, Items: []api.Node{one}}), in(api.Node{Kind: api.Array, Keys: []string{"a"}, Items: []api.Node{one}}),
	}
	objects := [][]string{{"b", "a"}, {"a", "a"}, {"a"}, {"a", "b", "c"}, nil, {"a", "\xff"}}
	for _, keys := range objects {
		out = append(out, in(api.Node{Kind: api.Object, Keys: keys, Items: []api.Node{one, one}}))
	}
	for _, kind := range []int{api.Hole, -1, 9, 256, math.MaxInt, math.MinInt} {
		out = append(out, leaf(a, kind), in(api.Node{Kind: kind, Str: "a", Items: []api.Node{one}}))
	}
	return out
}
