package erase_test

import (
	"fmt"
	"math"
	"math/rand"
	"slices"
	"testing"

	"keyhole/api"
	"keyhole/erase"
	"keyhole/level"
	"keyhole/node"
)

// Promise 11.1: At and Seen.

// wantErased asks At and Seen of a node.
func wantErased(t *testing.T, title string, l *level.Lattice, n api.Node, a int, want api.Node, seen int) {
	t.Helper()
	title = fmt.Sprintf("%s at %d", title, a)
	wantNode(t, "At of "+title, erase.At(l, n, a), want)
	if got := erase.Seen(l, n, a); got != seen {
		t.Errorf("Seen of %s is %d, not %d", title, got, seen)
	}
}

// wantModel asks of a node at all levels, and at what is none.
func wantModel(t *testing.T, title string, l *level.Lattice, n api.Node) {
	t.Helper()
	before := clone(n)
	title += ", " + brief(n) + ","
	for _, a := range levels(l) {
		wantErased(t, title, l, n, a, righted(l, erased(l, n, a)), count(l, n, a))
	}
	wantNode(t, "what was handed in", n, before)
}

func TestAt(t *testing.T) {
	l := lattice(2, [2]int{0, 1})
	none := hole(l)
	if none.Label != 1 || none.Deep != 1 || none.Kind != api.Hole {
		t.Fatal("no hole")
	}
	n := array(0, 1, number(0, 1), number(1, 2))
	wantErased(t, "an array", l, n, 0, array(0, 1, number(0, 1), none), 2)
	wantErased(t, "an array", l, n, 1, n, 3)
	o := object(0, 1, []string{"a", "b"}, array(1, 1, text(0, "x")), text(0, "y"))
	wantErased(t, "an object", l, o, 0, object(0, 1, []string{"a", "b"}, none, text(0, "y")), 2)
	wantErased(t, "an object", l, o, 1, object(0, 1, []string{"a", "b"}, array(1, 1, text(1, "x")), text(0, "y")), 4)
	wantErased(t, "a bad one", l, node.Wrong(0, "kind"), 0, node.Wrong(0, "kind"), 1)
	wantErased(t, "a bad one", l, node.Wrong(1, "kind"), 0, none, 0)
	wantErased(t, "what isn't seen itself", l, array(1, 1, text(0, "x"), text(0, "y")), 0, none, 0)
}

func TestAtTellsTheLabelThatCounts(t *testing.T) {
	l := chain()
	n := array(1, 2, text(0, "a"), array(0, 2, text(0, "b"), text(2, "c")), array(1, 1))
	wantErased(t, "low ones in another one", l, n, 0, hole(l), 0)
	wantErased(t, "low ones in another one", l, n, 1, array(1, 2, text(1, "a"), array(1, 2, text(1, "b"), hole(l)), array(1, 1)), 5)
	wantErased(t, "low ones in another one", l, n, 2, array(1, 2, text(1, "a"), array(1, 2, text(1, "b"), text(2, "c")), array(1, 1)), 6)
	s := sides()
	// Neither 1 nor 2 sees what both labels are around.
	m := array(1, 3, array(2, 2, text(0, "a")), text(1, "b"))
	wantErased(t, "side by side", s, m, 0, hole(s), 0)
	wantErased(t, "side by side", s, m, 1, array(1, 3, hole(s), text(1, "b")), 2)
	wantErased(t, "side by side", s, m, 2, hole(s), 0)
	wantErased(t, "side by side", s, m, 3, array(1, 3, array(3, 3, text(3, "a")), text(1, "b")), 4)
}

func TestAtMakesDeepRight(t *testing.T) {
	s := sides()
	// What isn't seen has a label below the top, but a hole has the top.
	wantErased(t, "Deep below the top", s, array(0, 1, text(1, "a")), 0, array(0, 3, hole(s)), 1)
	wantErased(t, "Deep of what is around", s, array(0, 1, array(0, 1, text(1, "a")), text(0, "b")), 0, array(0, 3, array(0, 3, hole(s)), text(0, "b")), 3)
	wantErased(t, "Deep of what is all seen", s, array(0, 1, array(0, 1, text(1, "a")), text(0, "b")), 1, array(0, 1, array(0, 1, text(1, "a")), text(0, "b")), 4)
	// A label that is around counts in what has a lower one.
	wantErased(t, "Deep under another label", s, array(1, 1, array(0, 0, text(0, "a"))), 1, array(1, 1, array(1, 1, text(1, "a"))), 3)
	d := turnedSides()
	wantErased(t, "Deep, the bottom not being 0", d, array(3, 3, text(3, "a"), array(3, 3)), 3, array(3, 3, text(3, "a"), array(3, 3)), 3)
	wantErased(t, "Deep, the top not being the last one", d, array(3, 0, text(0, "a"), array(3, 3)), 2, array(3, 1, hole(d), array(3, 3)), 2)
}

func TestAtOfSmallOnes(t *testing.T) {
	for i, l := range shapes() {
		if l.Size() > 5 {
			continue
		}
		for _, n := range small(l) {
			if !node.Is(l, n) {
				t.Fatalf("no node: %s", brief(n))
			}
			wantModel(t, fmt.Sprintf("a small one of the lattice %d", i), l, n)
		}
	}
}

func TestAtOfSome(t *testing.T) {
	r := rand.New(rand.NewSource(11))
	for i, l := range shapes() {
		for range 400 {
			wantModel(t, fmt.Sprintf("some node of the lattice %d", i), l, someNode(r, l, 5))
		}
	}
}

func TestWhatIsNoLevelSeesNothing(t *testing.T) {
	for _, l := range shapes() {
		for _, a := range append(slices.Clone(noLevels), l.Size()) {
			for _, n := range []api.Node{null(l.Bottom()), array(l.Bottom(), l.Bottom(), null(l.Bottom())), null(l.Top())} {
				wantErased(t, "a node", l, n, a, hole(l), 0)
			}
		}
	}
	for _, a := range append(slices.Clone(noLevels), 0, 1) {
		wantErased(t, "a node, of no lattice", nil, array(0, 0, text(0, "a")), a, api.Node{Kind: api.Hole}, 0)
	}
}

// Nothing is promised of nodes that may not be, but that there is an answer; what is seen of them is taken as it stands.
func TestAtOfStrangeOnes(t *testing.T) {
	for _, l := range []*level.Lattice{lattice(1), chain(), sides()} {
		for _, n := range strange() {
			wantModel(t, "a strange one", l, n)
			wantModel(t, "a strange one, in an array", l, array(0, 0, text(0, "a"), n))
		}
	}
	l := chain()
	for _, a := range noLevels {
		wantErased(t, "an item with no level", l, array(0, 2, null(a), text(0, "x")), 1, array(0, 2, hole(l), text(0, "x")), 2)
		wantErased(t, "no level", l, null(a), 1, hole(l), 0)
		wantErased(t, "no level", l, null(a), 2, null(2), 1)
		wantErased(t, "a Deep that isn't right", l, api.Node{Kind: api.Array, Deep: a, Items: []api.Node{text(1, "x")}}, 1, array(0, 1, text(1, "x")), 2)
	}
}

func TestAtOfSharedLists(t *testing.T) {
	l := chain()
	list := []api.Node{text(0, "a"), text(1, "b"), text(2, "c")}
	n := array(0, 2, array(1, 2, list...), array(0, 2, list...), array(2, 2, list...), object(0, 1, []string{"k", "l"}, list[:2]...), array(1, 2, list[1:]...), array(0, 0, list[:1]...))
	wantModel(t, "one list under several labels", l, n)
	wantModel(t, "it under others", l, array(1, 2, n, array(2, 2, n, n), array(0, 2, n)))
	got := erase.At(l, n, 1)
	wantNode(t, "it in the first place", got.Items[0], array(1, 2, text(1, "a"), text(1, "b"), hole(l)))
	wantNode(t, "it in the second place", got.Items[1], array(0, 2, text(0, "a"), text(1, "b"), hole(l)))
}

func TestAtOfWhatIsSharedOften(t *testing.T) {
	l := chain()
	n := double(0, 2, array(0, 2, text(1, "a"), text(2, "b")), 10000)
	for a := range 3 {
		in := righted(l, erased(l, array(0, 2, text(1, "a"), text(2, "b")), a))
		if !node.Same(erase.At(l, n, a), double(0, 2, in, 10000)) {
			t.Errorf("what is shared often, erased at %d, is another one", a)
		}
		if !node.Same(erase.At(l, array(1, 2, n), 2), array(1, 2, double(1, 2, array(1, 2, text(1, "a"), text(2, "b")), 10000))) {
			t.Errorf("what is shared often, under a label, is another one")
		}
	}
	wide := array(0, 1, slices.Repeat([]api.Node{text(1, "a")}, 3000)...)
	wide = array(0, 1, slices.Repeat([]api.Node{wide}, 3000)...)
	if got := erase.Seen(l, wide, 1); got != 1+3000+3000*3000 {
		t.Errorf("Seen of what is wide is %d", got)
	}
	if got := erase.At(l, wide, 0); got.Deep != 2 || got.Items[2999].Deep != 2 || got.Items[1500].Items[7].Kind != api.Hole {
		t.Error("what is wide, erased, is another one")
	}
}

func TestSeenOfWhatIsSharedOften(t *testing.T) {
	l := chain()
	for n := range 62 {
		want := 1<<(n+1) - 1
		for a, seen := range []int{want - 1<<n, want, want} {
			if got := erase.Seen(l, double(0, 1, text(1, "a"), n), a); got != seen {
				t.Errorf("Seen of a node, doubled %d times, at %d, is %d, not %d", n, a, got, seen)
			}
		}
	}
	for _, n := range []int{62, 63, 64, 65, 1000} {
		if got := erase.Seen(l, double(0, 0, text(0, "a"), n), 1); got != math.MaxInt {
			t.Errorf("Seen of a node, doubled %d times, is %d", n, got)
		}
		if got := erase.Seen(l, double(1, 1, text(0, "a"), n), 0); got != 0 {
			t.Errorf("Seen of a node, doubled %d times, that isn't seen, is %d", n, got)
		}
	}
}

func TestAtOfDeepOnes(t *testing.T) {
	l := chain()
	const count = 150000
	n := nest(0, 2, nest(1, 2, array(0, 2, text(1, "a"), text(2, "b")), count), count)
	if got := erase.At(l, n, 0); !node.Same(got, nest(0, 2, hole(l), count)) {
		t.Error("a deep one, erased at 0, is another one")
	}
	want := nest(0, 2, nest(1, 2, array(1, 2, text(1, "a"), hole(l)), count), count)
	if got := erase.At(l, n, 1); !node.Same(got, want) {
		t.Error("a deep one, erased at 1, is another one")
	}
	for a, want := range []int{count, 2*count + 2, 2*count + 3} {
		if got := erase.Seen(l, n, a); got != want {
			t.Errorf("Seen of a deep one at %d is %d, not %d", a, got, want)
		}
	}
}

// What holds itself may not be either: nothing is seen of it, and each call ends.
func TestWhatHoldsItself(t *testing.T) {
	l := chain()
	for n := 1; n < 20; n++ {
		for _, x := range []api.Node{ring(1, n), array(0, 1, text(0, "a"), ring(1, n)), array(2, 2, ring(1, n))} {
			for _, a := range []int{1, 2} {
				wantErased(t, "what holds itself", l, x, a, hole(l), 0)
				wantAlike(t, "what holds itself", l, x, x, a, true)
				wantNode(t, "Swap of what holds itself", erase.Swap(l, x, text(0, "m"), a), text(x.Label, "m"))
			}
		}
		// Where it isn't seen, it isn't gone into.
		around := array(0, 1, text(0, "a"), ring(1, n))
		wantErased(t, "what holds itself, and isn't seen", l, around, 0, array(0, 2, text(0, "a"), hole(l)), 2)
		wantNode(t, "Swap of what holds itself, and isn't seen", erase.Swap(l, around, text(0, "m"), 0), array(0, 1, text(0, "a"), text(1, "m")))
	}
}

// Promise 11.1: Alike.

// wantAlike asks of two nodes at a level, both ways round.
func wantAlike(t *testing.T, title string, l *level.Lattice, n, m api.Node, a int, want bool) {
	t.Helper()
	if erase.Alike(l, n, m, a) != want || erase.Alike(l, m, n, a) != want {
		t.Errorf("Alike of %s at %d isn't %v both ways round", title, a, want)
	}
}

// wantSight holds Alike at all levels against what is seen of both.
func wantSight(t *testing.T, title string, l *level.Lattice, n, m api.Node) {
	t.Helper()
	title += ", " + brief(n) + " and " + brief(m) + ","
	for _, a := range levels(l) {
		wantAlike(t, title, l, n, m, a, sight(l, n, a) == sight(l, m, a))
	}
}

func TestAlike(t *testing.T) {
	l := lattice(2, [2]int{0, 1})
	one, two := array(0, 1, number(0, 1), number(1, 1)), array(0, 1, number(0, 1), array(1, 1, number(0, 2)))
	wantAlike(t, "what isn't seen", l, one, two, 0, true)
	wantAlike(t, "what is seen", l, one, two, 1, false)
	wantAlike(t, "one and it", l, one, clone(one), 1, true)
	wantAlike(t, "what isn't seen at all", l, number(1, 1), object(1, 1, nil), 0, true)
	wantAlike(t, "one that is seen, and one that isn't", l, number(0, 1), number(1, 1), 0, false)
	wantAlike(t, "one hole, and two", l, array(0, 1, number(1, 1)), array(0, 1, number(1, 1), number(1, 2)), 0, false)
	wantAlike(t, "a hole, and nothing", l, array(0, 1, number(1, 1)), array(0, 0), 0, false)
	wantAlike(t, "other keys", l, object(0, 1, []string{"a"}, number(1, 1)), object(0, 1, []string{"b"}, number(1, 1)), 0, false)
	wantAlike(t, "like keys", l, object(0, 1, []string{"a"}, number(1, 1)), object(0, 1, []string{"a"}, text(1, "1")), 0, true)
	wantAlike(t, "other kinds", l, array(0, 0), object(0, 0, nil), 0, false)
	wantAlike(t, "nil and empty", l, array(0, 0), api.Node{Kind: api.Array, Items: []api.Node{}, Keys: []string{}}, 0, true)
	wantAlike(t, "other Labels", l, number(0, 1), number(1, 1), 1, false)
}

func TestAlikeByTheLabelsThatCount(t *testing.T) {
	l := chain()
	// In an array of 1, the labels 0 and 1 count as the same one.
	wantAlike(t, "labels that count as one", l, array(1, 1, text(0, "a")), array(1, 1, text(1, "a")), 1, true)
	wantAlike(t, "labels that count as one", l, array(1, 1, text(0, "a")), array(1, 1, text(1, "a")), 2, true)
	wantAlike(t, "labels that don't", l, array(0, 0, text(0, "a")), array(0, 1, text(1, "a")), 1, false)
	s := sides()
	wantAlike(t, "what has the join as its label, and what is in both", s, array(1, 3, text(2, "a")), array(1, 3, text(3, "a")), 3, true)
	wantAlike(t, "what has another join", s, array(1, 3, text(2, "a")), array(1, 1, text(1, "a")), 3, false)
	wantAlike(t, "holes of unlike labels", s, array(0, 1, text(1, "a")), array(0, 2, text(2, "a")), 0, true)
	wantAlike(t, "a hole, and what is seen", s, array(0, 1, text(1, "a")), array(0, 2, text(2, "a")), 1, false)
}

func TestAlikeOfSmallOnes(t *testing.T) {
	for _, l := range []*level.Lattice{lattice(1), lattice(2, [2]int{1, 0}), chain()} {
		all := small(l)
		sights := make([][]string, l.Size()+1)
		for a := range sights {
			for _, n := range all {
				sights[a] = append(sights[a], sight(l, n, a))
			}
		}
		for i, n := range all {
			for j, m := range all[i:] {
				for a := range l.Size() + 1 {
					wantAlike(t, fmt.Sprintf("the small ones %d and %d", i, i+j), l, n, m, a, sights[a][i] == sights[a][i+j])
				}
			}
		}
	}
}

func TestAlikeOfSome(t *testing.T) {
	r := rand.New(rand.NewSource(111))
	for _, l := range shapes() {
		for range 300 {
			n := someNode(r, l, 4)
			wantSight(t, "some node and it", l, n, clone(n))
			wantSight(t, "two nodes", l, n, someNode(r, l, 4))
			for range 4 {
				m := changed(r, l, n)
				wantSight(t, "some node, and it with a change", l, n, m)
			}
		}
	}
}

func TestAlikeAtNoLevel(t *testing.T) {
	for _, l := range append(shapes(), nil) {
		for _, a := range append(slices.Clone(noLevels), l.Size()) {
			wantAlike(t, "what nobody sees", l, null(l.Bottom()), text(l.Top(), "a"), a, true)
		}
	}
}

func TestAlikeOfSharedAndDeepOnes(t *testing.T) {
	l := chain()
	wantAlike(t, "shared ones", l, double(0, 1, text(1, "a"), 60), double(0, 2, text(2, "b"), 60), 0, true)
	wantAlike(t, "shared ones that aren't alike", l, double(0, 1, text(1, "a"), 60), double(0, 1, text(1, "b"), 60), 1, false)
	wantAlike(t, "shared ones, one deeper", l, double(0, 1, text(1, "a"), 60), double(0, 1, text(1, "a"), 61), 0, false)
	wantAlike(t, "deep ones", l, nest(0, 1, text(1, "a"), 100000), nest(0, 2, text(2, "b"), 100000), 0, true)
	wantAlike(t, "deep ones that aren't alike", l, nest(0, 1, text(1, "a"), 100000), nest(0, 1, text(1, "b"), 100000), 1, false)
}

// Promise 11.2: Swap.

// wantSwapped holds Swap against the document's words.
func wantSwapped(t *testing.T, l *level.Lattice, n, m api.Node, a int) {
	t.Helper()
	before, other := clone(n), clone(m)
	want := righted(l, swapped(l, n, m, a))
	got := erase.Swap(l, n, m, a)
	title := fmt.Sprintf("Swap of %s and %s at %d", brief(n), brief(m), a)
	wantNode(t, title, got, want)
	if l.Is(a) && !node.Is(l, got) {
		t.Errorf("%s may not be: %s", title, brief(got))
	}
	wantNode(t, "what was handed in", n, before)
	wantNode(t, "what was handed in as another one", m, other)
}

func TestSwap(t *testing.T) {
	l := lattice(2, [2]int{0, 1})
	n := array(0, 1, number(0, 1), number(1, 2), object(1, 1, []string{"a"}, number(0, 3)), array(0, 1, text(1, "x")))
	m := text(0, "m")
	wantNode(t, "Swap at 0", erase.Swap(l, n, m, 0), array(0, 1, number(0, 1), text(1, "m"), text(1, "m"), array(0, 1, text(1, "m"))))
	wantNode(t, "Swap at 1", erase.Swap(l, n, m, 1), n)
	wantNode(t, "Swap of what isn't seen itself", erase.Swap(l, number(1, 2), m, 0), text(1, "m"))
	wantNode(t, "Swap of what is seen itself", erase.Swap(l, number(0, 2), m, 0), number(0, 2))
	in := array(0, 1, text(0, "p"), text(1, "q"))
	wantNode(t, "Swap by an array", erase.Swap(l, array(0, 1, null(1)), in, 0), array(0, 1, array(1, 1, text(0, "p"), text(1, "q"))))
}

func TestSwapOfLabels(t *testing.T) {
	s := sides()
	// The Label that is joined is that of what stood there, not the one that counts; nodes around it keep theirs, too.
	n := array(1, 3, text(2, "a"), text(0, "b"))
	wantNode(t, "Swap under a label", erase.Swap(s, n, text(0, "m"), 1), array(1, 3, text(2, "m"), text(0, "b")))
	wantNode(t, "Swap by one side by side", erase.Swap(s, n, text(1, "m"), 1), array(1, 3, text(3, "m"), text(0, "b")))
	wantNode(t, "Swap by the top", erase.Swap(s, array(0, 1, text(1, "a")), text(3, "m"), 2), array(0, 3, text(3, "m")))
	wantNode(t, "Deep of what was far in is gone", erase.Swap(s, array(0, 3, array(1, 3, text(3, "a"))), text(0, "m"), 0), array(0, 1, text(1, "m")))
	d := turnedSides()
	wantNode(t, "Swap, the bottom not being 0", erase.Swap(d, array(3, 0, text(0, "a"), text(3, "b")), text(3, "m"), 2), array(3, 0, text(0, "m"), text(3, "b")))
	wantNode(t, "Swap, the top not being the last one", erase.Swap(d, array(3, 0, text(0, "a"), text(3, "b")), text(2, "m"), 2), array(3, 1, text(1, "m"), text(3, "b")))
}

func TestSwapOfSmallOnes(t *testing.T) {
	for _, l := range []*level.Lattice{lattice(1), lattice(2, [2]int{1, 0}), chain(), sides()} {
		for _, n := range small(l) {
			for b := range l.Size() {
				for _, a := range levels(l) {
					wantSwapped(t, l, n, text(b, "m"), a)
					wantSwapped(t, l, n, righted(l, array(l.Bottom(), 0, text(b, "m"))), a)
				}
			}
		}
	}
}

func TestSwapOfSome(t *testing.T) {
	r := rand.New(rand.NewSource(112))
	for _, l := range shapes() {
		for range 200 {
			n, m := someNode(r, l, 5), someNode(r, l, 3)
			for _, a := range levels(l) {
				wantSwapped(t, l, n, m, a)
			}
		}
	}
}

func TestSwapAtNoLevel(t *testing.T) {
	l := chain()
	for _, a := range append(slices.Clone(noLevels), l.Size()) {
		wantNode(t, "Swap at no level", erase.Swap(l, array(1, 1, text(0, "a")), text(0, "m"), a), text(1, "m"))
		wantNode(t, "Swap of no lattice", erase.Swap(nil, array(0, 0, text(0, "a")), text(0, "m"), a), text(0, "m"))
	}
}

func TestSwapOfSharedAndDeepOnes(t *testing.T) {
	l := chain()
	list := []api.Node{text(0, "a"), text(1, "b")}
	n := array(0, 2, array(1, 1, list...), array(0, 1, list...), array(2, 2, list...))
	for _, a := range levels(l) {
		wantSwapped(t, l, n, number(0, 1), a)
	}
	m := double(0, 0, text(0, "m"), 5000)
	raised := node.Raise(l, m, 2)
	if !node.Same(erase.Swap(l, double(0, 2, text(2, "a"), 5000), m, 1), double(0, 2, raised, 5000)) {
		t.Error("Swap of what is shared often is another one")
	}
	if !node.Same(erase.Swap(l, nest(0, 1, text(1, "a"), 300000), text(0, "m"), 0), nest(0, 1, text(1, "m"), 300000)) {
		t.Error("Swap of what is deep is another one")
	}
}

// Promise 11.3.

// wantFollows holds n and Swap of it against each other at a level, and at all below.
func wantFollows(t *testing.T, l *level.Lattice, n, m api.Node, a int) {
	t.Helper()
	swap := erase.Swap(l, n, m, a)
	for b := range l.Size() {
		if !l.Leq(b, a) {
			continue
		}
		// What is not alike may hold itself, or be long: it isn't gone through.
		if !erase.Alike(l, n, swap, b) || !erase.Alike(l, swap, n, b) {
			t.Errorf("%s, and Swap of it at %d, aren't alike at %d", brief(n), a, b)
		} else if sight(l, n, b) != sight(l, swap, b) {
			t.Errorf("of %s, and Swap of it at %d, another thing is seen at %d", brief(n), a, b)
		}
	}
}

func TestSwapIsAlike(t *testing.T) {
	r := rand.New(rand.NewSource(113))
	for _, l := range shapes() {
		for range 150 {
			n, m := someNode(r, l, 5), someNode(r, l, 3)
			for a := range l.Size() {
				wantFollows(t, l, n, m, a)
			}
		}
	}
}

// Whatever m is: also a node that may not be.
func TestSwapByStrangeOnesIsAlike(t *testing.T) {
	r := rand.New(rand.NewSource(114))
	for _, l := range shapes() {
		others := append(strange(), ring(0, 2), nest(0, 0, text(0, "a"), 1000), double(0, 0, text(0, "a"), 1000), array(0, 0, hole(l)))
		for _, b := range noLevels {
			others = append(others, null(b), api.Node{Deep: b}, array(b, 0, null(b)))
		}
		for range 10 {
			n := someNode(r, l, 4)
			for _, m := range others {
				for a := range l.Size() {
					wantFollows(t, l, n, m, a)
				}
			}
		}
	}
}

func TestErasedAgain(t *testing.T) {
	r := rand.New(rand.NewSource(115))
	for _, l := range shapes() {
		nodes := []api.Node{null(l.Bottom()), null(l.Top())}
		for range 200 {
			nodes = append(nodes, someNode(r, l, 5))
		}
		for _, n := range nodes {
			for a := range l.Size() {
				once := erase.At(l, n, a)
				for b := range l.Size() {
					if l.Leq(a, b) {
						wantNode(t, fmt.Sprintf("what is erased at %d, and again at %d,", a, b), erase.At(l, once, b), once)
						wantNode(t, fmt.Sprintf("what is erased at %d, and again at %d,", b, a), erase.At(l, erase.At(l, n, b), a), once)
					}
				}
			}
		}
	}
}

// What is handed in.

func TestTheRoomBehindIsLeft(t *testing.T) {
	l := lattice(2, [2]int{0, 1})
	items := []api.Node{text(0, "a"), text(1, "b"), text(0, "c"), text(1, "d")}
	n := array(0, 1, items[:2]...)
	erase.At(l, n, 0)
	erase.Swap(l, n, text(0, "m"), 0)
	erase.Seen(l, n, 0)
	erase.Alike(l, n, n, 0)
	wantNode(t, "the list, and the room behind it,", array(0, 1, items...), array(0, 1, text(0, "a"), text(1, "b"), text(0, "c"), text(1, "d")))
}
