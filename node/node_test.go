package node_test

import (
	"math"
	"math/rand"
	"slices"
	"strconv"
	"testing"

	"keyhole/api"
	"keyhole/jval"
	"keyhole/level"
	"keyhole/node"
)

// Promise 9.1: Is.

func wantIs(t *testing.T, title string, l *level.Lattice, n api.Node, want bool) {
	t.Helper()
	if node.Is(l, n) != want {
		t.Errorf("Is of %s is %v: %s", title, !want, brief(n.Kind))
	}
}

// wantWrong asks of a node that may not be, and of it at places in others.
func wantWrong(t *testing.T, title string, l *level.Lattice, n api.Node) {
	t.Helper()
	deep := joined(l, n.Deep)
	wantIs(t, title, l, n, false)
	wantIs(t, title+", in an array", l, array(0, deep, text(0, "a"), n), false)
	wantIs(t, title+", in an object", l, object(0, deep, []string{"a", "b"}, n, text(0, "a")), false)
	wantIs(t, title+", far in", l, nest(array(0, deep, n), 50), false)
}

func TestIs(t *testing.T) {
	for _, l := range []*level.Lattice{lattice(1), chain(), sides()} {
		for i, n := range right() {
			title := "right one " + strconv.Itoa(i)
			wantIs(t, title, l, n, true)
			wantIs(t, title+", in an array", l, array(0, 0, text(0, "a"), n, n), true)
			wantIs(t, title+", in an object", l, object(0, 0, []string{"k", "l"}, n, text(0, "a")), true)
		}
		for i, n := range strange() {
			wantWrong(t, "strange one "+strconv.Itoa(i), l, n)
		}
	}
}

func TestIsOfLabels(t *testing.T) {
	l := sides()
	for label := -1; label <= 4; label++ {
		for deep := -1; deep <= 4; deep++ {
			level := l.Is(label)
			wantIs(t, "a text", l, api.Node{Label: label, Deep: deep, Kind: api.String}, level && deep == label)
			wantIs(t, "an empty array", l, array(label, deep), level && deep == label)
			wantIs(t, "an array of 1", l, array(label, deep, null(1)), level && deep == l.Join(label, 1))
			wantIs(t, "an object of 2", l, object(label, deep, []string{"a"}, null(2)), level && deep == l.Join(label, 2))
			wantIs(t, "an array of 1 and 2", l, array(label, deep, null(1), null(2)), level && deep == 3)
			wantIs(t, "an array of 0 and one of 2", l, array(label, deep, null(0), array(0, 2, null(2))), level && deep == l.Join(label, 2))
			wantIs(t, "what is in an array", l, array(0, 3, null(3), array(label, deep, null(1))), level && deep == l.Join(label, 1))
		}
	}
	for _, a := range noLevels {
		wantWrong(t, "no level", l, null(a))
		wantWrong(t, "no level, and a Deep that is one", l, api.Node{Label: a, Deep: l.Top()})
		wantWrong(t, "no level around others", l, array(a, l.Top(), null(0)))
		wantWrong(t, "a Deep that is no level", l, api.Node{Deep: a})
	}
}

func TestIsOfItemsLabels(t *testing.T) {
	l := chain()
	wantIs(t, "an item with a lower label", l, array(2, 2, null(0), null(1)), true)
	wantIs(t, "Deep without what is below", l, array(0, 0, null(1)), false)
	wantIs(t, "Deep without the last one below", l, array(0, 1, null(1), null(2)), false)
	wantIs(t, "Deep without the first one below", l, array(0, 1, null(2), null(1)), false)
	wantIs(t, "Deep with more than there is", l, array(0, 2, null(1)), false)
	wantIs(t, "an item's Deep without what is below, and a Deep with it", l, array(0, 1, array(0, 0, null(1))), false)
	wantIs(t, "an item's Deep without what is below, and a Deep without it", l, array(0, 0, array(0, 0, null(1))), false)
	wantIs(t, "an item's Deep with too much", l, array(0, 1, array(0, 1, null(0))), false)
	wantIs(t, "far in, all right", l, array(0, 2, array(1, 2, array(0, 2, null(2)))), true)
}

func TestIsOfNoLattice(t *testing.T) {
	for _, n := range right() {
		wantIs(t, "a node, of no lattice", nil, n, false)
	}
}

func TestIsOfManySmallOnes(t *testing.T) {
	l := chain()
	items := [][]api.Node{nil, {}, {null(0)}, {null(1)}, {bad(0, "a"), text(0, "b")}, {null(0), {Kind: api.Hole}}, {null(0), {Str: "a"}}}
	keys := [][]string{nil, {}, {""}, {"a"}, {"a", "b"}, {"b", "a"}, {"a", "a"}, {"a", "\xff"}, {"a", "b", "c"}}
	for kind := -1; kind <= 9; kind++ {
		for _, num := range []api.Num{{}, {Coef: 1}, {Scale: 1}, {Coef: 10, Scale: 1}} {
			for _, s := range []string{"", "a", "\xff"} {
				for _, in := range items {
					for _, k := range keys {
						for a := range 6 {
							n := api.Node{Label: a / 2, Deep: (a + 1) / 2, Kind: kind, Num: num, Str: s, Items: in, Keys: k}
							wantIs(t, brief(n), l, n, mayBe(l, n))
						}
					}
				}
			}
		}
	}
}

func TestIsOfDeepAndSharedOnes(t *testing.T) {
	l := chain()
	for _, n := range []int{31, 32, 33, 34, 64, 1000, 300000} {
		wantIs(t, "a deep one", l, nest(text(1, "a"), n), true)
		wantIs(t, "a deep one with a wrong end", l, nest(text(1, "\xff"), n), false)
	}
	for _, n := range []int{1, 10, 64, 100, 10000} {
		wantIs(t, "a shared one", l, double(text(1, "a"), n), true)
		wantIs(t, "a shared one with a hole", l, double(api.Node{Kind: api.Hole}, n), false)
	}
	list := []api.Node{text(0, "a"), text(0, "b"), {Kind: api.Hole}}
	wantIs(t, "a part of a list", l, array(0, 0, array(0, 0, list[:2]...), array(0, 0, list[:1]...)), true)
	wantIs(t, "a part of a list, and all of it", l, array(0, 0, array(0, 0, list[:2]...), array(0, 0, list...)), false)
	wantIs(t, "one list in an array, and in an object with wrong keys", l, array(0, 0, array(0, 0, list[:2]...), object(0, 0, []string{"b", "a"}, list[:2]...)), false)
}

func TestIsOfWhatHoldsItself(t *testing.T) {
	for n := 1; n < 40; n++ {
		wantIs(t, "what holds itself", chain(), ring(1, n), false)
		wantIs(t, "what holds what holds itself", chain(), array(0, 1, array(0, 0), ring(1, n), null(0)), false)
	}
}

func TestIsOfSomeWithAFault(t *testing.T) {
	r := rand.New(rand.NewSource(9))
	for _, l := range shapes() {
		for range 1000 {
			n := someNode(r, l, 4)
			wantIs(t, "some node", l, n, true)
			spoil(r, &n)
			wantIs(t, "some node with a fault: "+brief(n), l, n, mayBe(l, n))
		}
	}
}

// Promise 9.1: Same.

func wantSame(t *testing.T, title string, a, b api.Node, want bool) {
	t.Helper()
	if node.Same(a, b) != want || node.Same(b, a) != want {
		t.Errorf("Same of %s isn't %v both ways round", title, want)
	}
}

func TestSame(t *testing.T) {
	all := append(right(), strange()...)
	for i, n := range all {
		for j, m := range all {
			title := strconv.Itoa(i) + " and " + strconv.Itoa(j)
			m = clone(m)
			wantSame(t, title, n, m, i == j)
			wantSame(t, title+" in an array", array(0, 0, null(0), n), array(0, 0, null(0), m), i == j)
			wantSame(t, title+" ahead in an object", object(0, 0, []string{"a", "b"}, n, null(0)), object(0, 0, []string{"a", "b"}, m, null(0)), i == j)
			wantSame(t, title+" far in", nest(n, 40), nest(m, 40), i == j)
		}
	}
}

func TestSameOfLabels(t *testing.T) {
	for _, a := range append([]int{0, 1, 2}, noLevels...) {
		for _, b := range append([]int{0, 1, 2}, noLevels...) {
			wantSame(t, "Labels", api.Node{Label: a}, api.Node{Label: b}, a == b)
			wantSame(t, "Deeps", api.Node{Deep: a}, api.Node{Deep: b}, a == b)
			wantSame(t, "a Label and a Deep", api.Node{Label: a}, api.Node{Deep: b}, a == 0 && b == 0)
			wantSame(t, "items' Labels", array(0, 0, null(0), api.Node{Label: a}), array(0, 0, null(0), api.Node{Label: b}), a == b)
			wantSame(t, "items' Deeps", nest(array(0, 0, api.Node{Deep: a}), 3), nest(array(0, 0, api.Node{Deep: b}), 3), a == b)
		}
	}
}

func TestSameOfNilAndEmpty(t *testing.T) {
	for kind := -1; kind < 10; kind++ {
		none, empty := api.Node{Kind: kind}, api.Node{Kind: kind, Items: make([]api.Node, 0, 3), Keys: make([]string, 0, 3)}
		wantSame(t, "nil and empty", none, empty, true)
		wantSame(t, "nil and empty, in", array(0, 0, none), array(0, 0, empty), true)
	}
}

func TestSameOfSomeWithAChange(t *testing.T) {
	r := rand.New(rand.NewSource(91))
	l := sides()
	for range 5000 {
		n := someNode(r, l, 4)
		m := clone(n)
		wantSame(t, "some node and another one of it", n, m, true)
		spoil(r, &m)
		wantSame(t, "some node and another one", n, m, equal(n, m))
	}
}

func TestSameOfSharedAndDeepOnes(t *testing.T) {
	one, two := double(text(0, "a"), 60), double(text(0, "b"), 60)
	wantSame(t, "a shared one and itself", one, one, true)
	wantSame(t, "a shared one and another one of it", one, double(text(0, "a"), 60), true)
	wantSame(t, "two shared ones", one, two, false)
	wantSame(t, "two shared ones, one deeper", one, double(text(0, "a"), 61), false)
	wantSame(t, "a shared one and one that isn't", double(text(0, "a"), 10), clone(double(text(0, "a"), 10)), true)
	deep := nest(text(0, "a"), 300000)
	wantSame(t, "a deep one and another one of it", deep, nest(text(0, "a"), 300000), true)
	wantSame(t, "two deep ones", deep, nest(text(0, "b"), 300000), false)
	list := []api.Node{text(0, "a"), text(0, "b"), text(0, "a"), text(0, "c")}
	wantSame(t, "parts of one list that begin alike", array(0, 0, list[:1]...), array(0, 0, list[:2]...), false)
	wantSame(t, "like parts of one list", array(0, 0, list[0:1]...), array(0, 0, list[2:3]...), true)
	wantSame(t, "unlike parts of one list", array(0, 0, list[0:2]...), array(0, 0, list[2:4]...), false)
}

func TestSameOfWhatHoldsItself(t *testing.T) {
	wantSame(t, "what holds itself, and it", ring(0, 1), ring(0, 1), true)
	wantSame(t, "what holds itself at once, and later", ring(0, 2), ring(0, 3), true)
	wantSame(t, "what holds itself, with other labels", ring(0, 2), ring(1, 2), false)
	wantSame(t, "what holds itself, and an end", ring(0, 2), nest(array(0, 0), 2), false)
	wantSame(t, "what holds itself, and two of it", ring(0, 1), array(0, 0, ring(0, 1), ring(0, 1)), false)
}

// Promise 9.1: Mark.

func wantMark(t *testing.T, l *level.Lattice, v api.Value, a int) {
	t.Helper()
	before, _ := stripped(marked(l, v, a))
	wantNode(t, "Mark of "+brief(v)+" with "+strconv.Itoa(a), node.Mark(l, v, a), marked(l, v, a))
	wantValue(t, "what was marked", v, before)
}

func TestMark(t *testing.T) {
	for _, l := range shapes() {
		for _, n := range append(right(), strange()...) {
			v, _ := stripped(n)
			for a := range l.Size() {
				wantMark(t, l, v, a)
				wantMark(t, l, jval.List(jval.Text("a"), v), a)
				wantMark(t, l, jval.Put(jval.Put(api.Value{Kind: api.Object}, "b", v), "a", jval.List(v, v)), a)
			}
		}
	}
}

func TestMarkOfSome(t *testing.T) {
	r := rand.New(rand.NewSource(92))
	for _, l := range shapes() {
		for range 500 {
			wantMark(t, l, someValue(r, 5), r.Intn(l.Size()))
		}
	}
}

func TestMarkOfNoLevel(t *testing.T) {
	l := lattice(2, [2]int{1, 0})
	for _, a := range noLevels {
		want := array(a, l.Top(), null(l.Bottom()))
		wantNode(t, "Mark with no level", node.Mark(l, jval.List(api.Value{}), a), want)
	}
	wantNode(t, "Mark of no lattice", node.Mark(nil, jval.List(jval.Text("a")), 0), array(0, 0, text(0, "a")))
}

func TestMarkOfSharedAndDeepOnes(t *testing.T) {
	l := lattice(2, [2]int{1, 0})
	in := node.Mark(l, nestValue(jval.Text("a"), 300000), 1)
	wantIs(t, "a deep one, marked", l, in, true)
	wantSame(t, "a deep one, marked", in, func() api.Node {
		n := text(1, "a")
		for range 300000 {
			n = array(1, 1, n)
		}
		return n
	}(), true)
	out := node.Mark(l, doubleValue(jval.Text("a"), 60), 0)
	want := double(text(1, "a"), 60)
	want.Label, want.Deep = 0, 0
	wantSame(t, "a shared one, marked", out, want, true)
	held := node.Mark(l, ringValue(3), 0)
	around := ring(1, 3)
	around.Label, around.Deep = 0, 0
	wantSame(t, "what holds itself, marked", held, around, true)
}

// Promise 9.1: Strip.

func wantStrip(t *testing.T, n api.Node) {
	t.Helper()
	want, count := stripped(n)
	before := clone(n)
	for _, most := range []int{math.MinInt, -1, 0, 1, count - 2, count - 1, count, count + 1, 2 * count, api.MaxWalk + count, math.MaxInt - 1, math.MaxInt} {
		got, ok := node.Strip(n, most)
		title := "Strip, at most " + strconv.Itoa(most) + ", of " + brief(n)
		if ok != (count <= most) {
			t.Errorf("%s is %v", title, ok)
		}
		if !ok {
			wantValue(t, title, got, api.Value{})
			continue
		}
		wantValue(t, title, got, want)
	}
	wantNode(t, "what was stripped", n, before)
}

func TestStrip(t *testing.T) {
	for _, n := range append(right(), strange()...) {
		wantStrip(t, n)
		n.Label, n.Deep = 5, -1
		wantStrip(t, n)
		wantStrip(t, array(1, 1, n, null(2), n))
		wantStrip(t, object(1, 1, []string{"b", "a"}, n, array(0, 1, null(2), n), text(1, "a")))
	}
}

func TestStripOfSome(t *testing.T) {
	r := rand.New(rand.NewSource(93))
	for range 1500 {
		n := someNode(r, sides(), 5)
		wantStrip(t, n)
		spoil(r, &n)
		wantStrip(t, n)
	}
}

func wantStrips(t *testing.T, title string, n api.Node, most int, want bool) {
	t.Helper()
	if v, ok := node.Strip(n, most); ok != want || !want && !equalValue(v, api.Value{}) {
		t.Errorf("Strip of %s, at most %d, is %v", title, most, ok)
	}
}

func TestStripOfSharedAndDeepOnes(t *testing.T) {
	for n := range 80 {
		shared := double(text(1, "a"), n)
		size := math.MaxInt
		if n < 62 {
			size = 1<<(n+1) - 1
			wantStrips(t, "a shared one", shared, size, true)
		}
		wantStrips(t, "a shared one", shared, size-1, false)
		wantStrips(t, "a shared one", shared, math.MaxInt, n < 63)
		wantStrips(t, "a shared one", shared, api.MaxWalk, size <= api.MaxWalk)
	}
	v, _ := node.Strip(double(text(1, "a"), 60), math.MaxInt)
	if !jval.Same(v, doubleValue(jval.Text("a"), 60)) {
		t.Error("Strip of a shared one is another one")
	}
	deep := nestValue(jval.Text("a"), 300000)
	n := node.Mark(chain(), deep, 1)
	for _, most := range []int{1, 4096, 300000, 300001, math.MaxInt} {
		wantStrips(t, "a deep one", n, most, most > 300000)
	}
	if v, _ := node.Strip(n, math.MaxInt); !jval.Same(v, deep) {
		t.Error("Strip of a deep one is another one")
	}
	list := []api.Node{text(0, "a"), text(0, "b")}
	wantStrip(t, array(0, 0, array(0, 0, list[:1]...), array(0, 0, list...), array(0, 0, list[1:]...), array(0, 0, list[:1]...)))
	wantStrips(t, "many", array(0, 0, make([]api.Node, 100000)...), 100000, false)
	wantStrips(t, "many", array(0, 0, make([]api.Node, 100000)...), 100001, true)
}

func TestStripOfWhatHoldsItself(t *testing.T) {
	for n := 1; n < 5; n++ {
		for _, most := range []int{math.MinInt, 0, 1, 10, 4096, math.MaxInt} {
			wantStrips(t, "what holds itself", ring(0, n), most, false)
			wantStrips(t, "what holds what holds itself", array(0, 0, null(0), ring(0, n), null(0)), most, false)
		}
	}
}

// Promise 9.1: Raise.

func wantRaise(t *testing.T, l *level.Lattice, n api.Node, a int) {
	t.Helper()
	before := clone(n)
	want := clone(n)
	want.Label, want.Deep = l.Join(n.Label, a), l.Join(n.Deep, a)
	wantNode(t, "Raise of "+brief(n)+" by "+strconv.Itoa(a), node.Raise(l, n, a), want)
	wantNode(t, "what was raised", n, before)
}

func TestRaise(t *testing.T) {
	r := rand.New(rand.NewSource(94))
	for _, l := range shapes() {
		for a := range l.Size() {
			for b := range l.Size() {
				wantRaise(t, l, null(b), a)
				wantRaise(t, l, bad(b, "kind"), a)
				wantRaise(t, l, array(l.Bottom(), b, null(b), text(l.Bottom(), "a")), a)
			}
			for range 20 {
				wantRaise(t, l, someNode(r, l, 3), a)
			}
			for _, n := range strange() {
				wantRaise(t, l, n, a)
			}
		}
		for _, a := range noLevels {
			wantRaise(t, l, null(l.Bottom()), a)
			wantRaise(t, l, null(a), l.Bottom())
		}
	}
	l := sides()
	wantNode(t, "Raise of what has a lower label than its items", node.Raise(l, array(0, 2, null(2)), 1), array(1, 3, null(2)))
	wantNode(t, "Raise of a Deep that isn't right", node.Raise(l, array(2, 0, null(2)), 1), array(3, 1, null(2)))
	wantNode(t, "Raise of no lattice", node.Raise(nil, text(0, "a"), 0), text(0, "a"))
}

// Promise 9.2: Array and Object.

func TestArrayAndObject(t *testing.T) {
	l := sides()
	for _, x := range []struct {
		a     int
		items []api.Node
		deep  int
	}{
		{0, nil, 0}, {1, nil, 1}, {3, []api.Node{}, 3},
		{0, []api.Node{null(0)}, 0}, {0, []api.Node{null(1)}, 1}, {1, []api.Node{null(0)}, 1}, {1, []api.Node{null(2)}, 3}, {3, []api.Node{null(0)}, 3},
		{0, []api.Node{null(1), null(2)}, 3}, {0, []api.Node{null(1), null(0)}, 1}, {0, []api.Node{null(0), null(2)}, 2}, {2, []api.Node{null(0), text(2, "a"), bad(0, "b")}, 2},
		{0, []api.Node{array(0, 2, null(2))}, 2}, {0, []api.Node{array(1, 1), array(0, 2, null(2)), null(0)}, 3},
		{0, []api.Node{{Label: 0, Deep: 2}}, 2}, {0, []api.Node{{Label: 2, Deep: 0}}, 0}, {0, []api.Node{array(0, 0, null(3))}, 0}, {0, []api.Node{{Deep: 9}}, 3},
	} {
		keys := []string{"a", "b", "c"}[:len(x.items)]
		wantNode(t, "Array", node.Array(l, x.a, x.items), array(x.a, x.deep, x.items...))
		wantNode(t, "Object", node.Object(l, x.a, keys, x.items), object(x.a, x.deep, keys, x.items...))
	}
}

func TestArrayAndObjectOfEachLattice(t *testing.T) {
	r := rand.New(rand.NewSource(95))
	for _, l := range shapes() {
		for a := range l.Size() {
			wantNode(t, "Array of nothing", node.Array(l, a, nil), array(a, a))
			wantNode(t, "Object of nothing", node.Object(l, a, nil, nil), object(a, a, nil))
			for b := range l.Size() {
				for c := range l.Size() {
					items := []api.Node{someNode(r, l, 2), null(b), array(l.Bottom(), c, null(c))}
					deep := joined(l, a, b, c, joined(l, labels(items[0])...))
					wantNode(t, "Array", node.Array(l, a, items), array(a, deep, items...))
					wantNode(t, "Object", node.Object(l, a, []string{"", "x", "y"}, items), object(a, deep, []string{"", "x", "y"}, items...))
				}
			}
		}
	}
}

func TestArrayAndObjectOfWhatMayNotBe(t *testing.T) {
	l := chain()
	for _, n := range strange() {
		n.Deep = 1
		wantNode(t, "Array", node.Array(l, 0, []api.Node{n, null(0)}), array(0, 1, n, null(0)))
		wantNode(t, "Object", node.Object(l, 2, []string{"a", "b"}, []api.Node{n, null(0)}), object(2, 2, []string{"a", "b"}, n, null(0)))
	}
	for _, a := range noLevels {
		wantNode(t, "Array with no level", node.Array(l, a, []api.Node{null(1)}), array(a, 2, null(1)))
		wantNode(t, "Object with no level", node.Object(l, a, []string{"a"}, []api.Node{null(1)}), object(a, 2, []string{"a"}, null(1)))
	}
	held := node.Array(l, 0, []api.Node{ring(1, 3)})
	wantSame(t, "an array of what holds itself", held, array(0, 1, ring(1, 3)), true)
	wantNode(t, "Array of no lattice", node.Array(nil, 0, []api.Node{null(0)}), array(0, 0, null(0)))
}

// Promise 9.2: Wrong and Leaf.

func TestWrong(t *testing.T) {
	for a := range 3 {
		for _, s := range append([]string{"", "kind", "h\u00e9\x00"}, noTexts...) {
			wantNode(t, "Wrong", node.Wrong(a, s), api.Node{Label: a, Deep: a, Kind: 7, Str: s})
		}
	}
}

func TestLeaf(t *testing.T) {
	for _, n := range append(right(), strange()...) {
		wantValue(t, "Leaf of "+brief(n.Kind), node.Leaf(n), api.Value{Kind: n.Kind, Num: n.Num, Str: n.Str})
		n.Label, n.Deep = 2, 3
		wantValue(t, "Leaf of "+brief(n.Kind), node.Leaf(n), api.Value{Kind: n.Kind, Num: n.Num, Str: n.Str})
	}
	full := api.Node{Label: 1, Deep: 2, Kind: 6, Num: api.Num{Coef: 3, Scale: 4}, Str: "s", Items: []api.Node{{}}, Keys: []string{"a"}}
	wantValue(t, "Leaf of a full one", node.Leaf(full), api.Value{Kind: 6, Num: api.Num{Coef: 3, Scale: 4}, Str: "s"})
	wantValue(t, "Leaf of what holds itself", node.Leaf(ring(0, 1)), jval.List())
}

// Promise 9.2: Item and Field.

func wantItem(t *testing.T, l *level.Lattice, n api.Node, i int, want api.Node, found bool) {
	t.Helper()
	if got, ok := node.Item(l, n, i); ok != found || !equal(got, want) {
		t.Errorf("Item(%s, %d) is %s, %v, not %s, %v", brief(n), i, brief(got), ok, brief(want), found)
	}
}

func wantField(t *testing.T, l *level.Lattice, n api.Node, key string, want api.Node, found bool) {
	t.Helper()
	if got, ok := node.Field(l, n, key); ok != found || !equal(got, want) {
		t.Errorf("Field(%s, %+q) is %s, %v, not %s, %v", brief(n), key, brief(got), ok, brief(want), found)
	}
}

func TestItemAndField(t *testing.T) {
	l := sides()
	items := []api.Node{text(0, "0"), text(1, "1"), text(2, "2"), array(0, 2, null(2), null(0)), bad(1, "4")}
	keys := []string{"", "a", "aa", "b", "\u00e9"}
	raised := func(i, label, deep int) api.Node {
		n := clone(items[i])
		n.Label, n.Deep = label, deep
		return n
	}
	for a, want := range [][]api.Node{
		items,
		{raised(0, 1, 1), raised(1, 1, 1), raised(2, 3, 3), raised(3, 1, 3), raised(4, 1, 1)},
		{raised(0, 2, 2), raised(1, 3, 3), raised(2, 2, 2), raised(3, 2, 2), raised(4, 3, 3)},
		{raised(0, 3, 3), raised(1, 3, 3), raised(2, 3, 3), raised(3, 3, 3), raised(4, 3, 3)},
	} {
		for i := range items {
			wantItem(t, l, array(a, 3, items...), i, want[i], true)
			wantItem(t, l, object(a, 3, keys, items...), i, want[i], true)
			wantField(t, l, object(a, 3, keys, items...), keys[i], want[i], true)
		}
	}
}

func TestItemAndFieldOfWhatIsNotThere(t *testing.T) {
	l := chain()
	items := []api.Node{text(0, "0"), text(1, "1")}
	o := object(0, 1, []string{"a", "c"}, items...)
	for _, i := range []int{math.MinInt, math.MinInt32, -2, -1, 2, 3, math.MaxInt32, 1 << 32, math.MaxInt} {
		wantItem(t, l, array(0, 1, items...), i, api.Node{}, false)
		wantItem(t, l, o, i, api.Node{}, false)
	}
	for _, key := range []string{"", "A", "b", "aa", "a\x00", "d", "0", "\xff"} {
		wantField(t, l, o, key, api.Node{}, false)
	}
	for _, n := range []api.Node{array(2, 2), object(2, 2, nil)} {
		wantItem(t, l, n, 0, api.Node{}, false)
		wantField(t, l, n, "", api.Node{}, false)
	}
	for _, kind := range append([]int{api.Null, api.False, api.True, api.Number, api.String, api.Array, api.Bad}, noKinds...) {
		n := api.Node{Kind: kind, Items: items, Keys: []string{"a", "c"}}
		for _, key := range n.Keys {
			wantField(t, l, n, key, api.Node{}, false)
		}
		if kind != api.Array {
			wantItem(t, l, n, 0, api.Node{}, false)
			wantItem(t, l, n, 1, api.Node{}, false)
		}
	}
}

func TestItemAndFieldOfWhatMayNotBe(t *testing.T) {
	l := chain()
	one, two, three := text(0, "1"), text(0, "2"), text(0, "3")
	up := text(1, "1")
	o := object(1, 0, []string{"c", "\xff", "a"}, two, three, one)
	wantField(t, l, o, "a", up, true)
	wantField(t, l, o, "\xff", text(1, "3"), true)
	wantItem(t, l, o, 2, up, true)
	twice := object(1, 0, []string{"a", "a"}, one, two)
	wantField(t, l, twice, "a", up, true)
	short := object(1, 0, []string{"a", "b"}, one)
	wantField(t, l, short, "a", up, true)
	wantField(t, l, short, "b", api.Node{}, false)
	wantItem(t, l, short, 1, api.Node{}, false)
	long := object(1, 0, []string{"a"}, one, two)
	wantItem(t, l, long, 1, text(1, "2"), true)
	wantItem(t, l, api.Node{Kind: api.Array, Items: []api.Node{one}, Keys: []string{"a"}, Str: "x", Label: 1}, 0, up, true)
	for _, n := range strange() {
		want := clone(n)
		want.Label, want.Deep = 1, 1
		wantItem(t, l, array(1, 1, null(0), n), 1, want, true)
		wantField(t, l, object(1, 1, []string{"a", "b"}, null(0), n), "b", want, true)
	}
	wantItem(t, l, array(99, 0, one), 0, text(2, "1"), true)
	wantItem(t, l, array(0, 0, api.Node{Label: 2, Deep: -1}), 0, api.Node{Label: 2, Deep: 2}, true)
	wantItem(t, nil, array(0, 0, one), 0, one, true)
}

// Promise 9.3.

// more is a node that is made of others by the package's calls.
func more(r *rand.Rand, l *level.Lattice, have []api.Node) api.Node {
	any := func() api.Node { return have[r.Intn(len(have))] }
	a := r.Intn(l.Size())
	switch r.Intn(7) {
	case 0:
		v, _ := node.Strip(any(), 100)
		return node.Mark(l, v, a)
	case 1:
		return node.Array(l, a, []api.Node{any(), any(), any()}[:r.Intn(4)])
	case 2:
		keys := []string{"", "a", "a\x00", "\u00e9"}
		return node.Object(l, a, keys, []api.Node{any(), any(), any(), any()})
	case 3:
		n, _ := node.Item(l, any(), r.Intn(4))
		return node.Raise(l, n, a)
	case 4:
		n, _ := node.Field(l, any(), "a")
		return node.Raise(l, n, a)
	case 5:
		return node.Wrong(a, word(r))
	}
	return node.Raise(l, any(), a)
}

func TestWhatIsMadeMayBe(t *testing.T) {
	r := rand.New(rand.NewSource(96))
	for _, l := range shapes() {
		for range 20 {
			have := []api.Node{node.Mark(l, someValue(r, 3), r.Intn(l.Size()))}
			for range 60 {
				n := more(r, l, have)
				wantIs(t, "what was made", l, n, true)
				have = append(have, n)
			}
		}
	}
}

func TestWhatIsTakenOutHasTheLabelThatCounts(t *testing.T) {
	r := rand.New(rand.NewSource(97))
	for _, l := range shapes() {
		for range 300 {
			n := someNode(r, l, 5)
			wantCounted(t, l, n, n, n.Label)
		}
	}
}

// wantCounted takes all items out of a node that was taken out itself, and stood as another one where it was taken out.
func wantCounted(t *testing.T, l *level.Lattice, out, stood api.Node, counts int) {
	t.Helper()
	if out.Label != counts || out.Deep != joined(l, append(labels(stood), counts)...) {
		t.Errorf("the label is %d, Deep %d, where %d counts", out.Label, out.Deep, counts)
	}
	for i, item := range stood.Items {
		got, ok := node.Item(l, out, i)
		if !ok {
			t.Errorf("there is no item %d", i)
		}
		wantCounted(t, l, got, item, l.Join(counts, item.Label))
		if stood.Kind == api.Object {
			field, ok := node.Field(l, out, stood.Keys[i])
			if !ok || !equal(field, got) {
				t.Errorf("key %+q has %s, not %s", stood.Keys[i], brief(field), brief(got))
			}
		}
	}
}

// Promise P1, and what is handed in.

func TestWhateverIsAskedIsAnswered(t *testing.T) {
	r := rand.New(rand.NewSource(98))
	some := []int{0, 1, 2, 3, -1, 8, math.MaxInt, math.MinInt}
	lattices := append(shapes(), nil, &level.Lattice{})
	for range 4000 {
		l := lattices[r.Intn(len(lattices))]
		n := someNode(r, chain(), 4)
		for range r.Intn(4) {
			spoil(r, &n)
		}
		m := clone(n)
		a := some[r.Intn(len(some))]
		node.Is(l, n)
		node.Same(n, m)
		v, _ := node.Strip(n, a)
		node.Mark(l, v, a)
		node.Raise(l, n, a)
		node.Array(l, a, []api.Node{n, m})
		node.Object(l, a, []string{"b", "\xff"}, []api.Node{n})
		node.Wrong(a, n.Str)
		node.Item(l, n, a)
		node.Field(l, n, word(r))
		node.Field(l, n, "")
		node.Leaf(n)
		wantNode(t, "what was handed in", n, m)
	}
}

func TestTheRoomBehindIsLeft(t *testing.T) {
	l := chain()
	items := []api.Node{text(0, "1"), text(1, "2"), text(2, "3")}
	keys := []string{"a", "b", "c"}
	n := node.Object(l, 0, keys[:2], items[:2])
	node.Raise(l, n, 2)
	node.Item(l, n, 0)
	node.Array(l, 1, items[:1])
	v, _ := node.Strip(n, 10)
	node.Mark(l, v, 1)
	if !slices.Equal(keys, []string{"a", "b", "c"}) || !slices.EqualFunc(items, []api.Node{text(0, "1"), text(1, "2"), text(2, "3")}, equal) {
		t.Errorf("the room is %q, %s", keys, brief(items))
	}
}
