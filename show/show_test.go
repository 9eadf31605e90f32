package show_test

import (
	"fmt"
	"math"
	"math/rand"
	"slices"
	"strings"
	"testing"

	"keyhole/api"
	"keyhole/envelope"
	"keyhole/erase"
	"keyhole/jtext"
	"keyhole/level"
	"keyhole/node"
	"keyhole/show"
)

// Promise 12.1.

// wantMost asks for a text with a bound.
func wantMost(t *testing.T, title string, l *level.Lattice, n api.Node, a, most int, want string, told bool) {
	t.Helper()
	if got, ok := show.Text(l, n, a, most); got != want || ok != told {
		t.Errorf("Text of %s at %d, of at most %d bytes, is %s, %v, not %s, %v", title, a, most, brief(got), ok, brief(want), told)
	}
}

// wantText asks for a text with all kinds of bounds.
func wantText(t *testing.T, title string, l *level.Lattice, n api.Node, a int, want string) {
	t.Helper()
	for _, most := range []int{len(want), len(want) + 1, 2 * len(want), api.MaxText + len(want), math.MaxInt32, math.MaxInt} {
		wantMost(t, title, l, n, a, most, want, true)
	}
	for _, most := range []int{len(want) - 1, len(want) - 2, len(want) / 2, 1, 0, -1, -len(want), math.MinInt32, math.MinInt} {
		if most < len(want) {
			wantMost(t, title, l, n, a, most, "", false)
		}
	}
}

// wantNone asks for the text of what has none.
func wantNone(t *testing.T, title string, l *level.Lattice, n api.Node, a int) {
	t.Helper()
	for _, most := range []int{0, 1, 9, 10, 1000, math.MaxInt} {
		wantMost(t, title, l, n, a, most, "", false)
	}
}

// wantModel asks of a node at all levels, and at what is none.
func wantModel(t *testing.T, title string, l *level.Lattice, n api.Node) {
	t.Helper()
	title += ", " + brief(n) + ","
	for a := range l.Size() {
		wantText(t, title, l, n, a, shown(l, n, a, l.Bottom()))
	}
	for _, a := range noLevels(l) {
		wantText(t, title, l, n, a, `{"#":null}`)
	}
}

func TestTheChaptersExample(t *testing.T) {
	l := lowHigh()
	n := array(l, 0, number(0, 1, 0), number(1, 2, 0))
	wantText(t, "the example", l, n, 0, `[1,{"#":null}]`)
	wantText(t, "the example", l, n, 1, `[1,{"#":"high","=":2}]`)
}

func TestTheWholesExamples(t *testing.T) {
	l := lowHigh()
	wantText(t, ".a, high", l, number(1, 1, 0), 0, `{"#":null}`)
	wantText(t, ".a + 1, high", l, number(1, 2, 0), 1, `{"#":"high","=":2}`)
	wantText(t, "what isn't given the authority", l, node.Wrong(1, "authority"), 1, `{"#":"high","=":{"#!":"authority"}}`)
	wantText(t, "1 + a text", l, node.Wrong(0, "kind"), 0, `{"#!":"kind"}`)
}

func TestLeaves(t *testing.T) {
	l := lowHigh()
	for kind, want := range []string{"null", "false", "true"} {
		wantText(t, "a leaf", l, leaf(0, kind), 0, want)
		wantText(t, "a leaf", l, leaf(0, kind), 1, want)
		wantText(t, "a leaf", l, leaf(1, kind), 0, `{"#":null}`)
		wantText(t, "a leaf", l, leaf(1, kind), 1, `{"#":"high","=":`+want+`}`)
	}
	wantText(t, "nought", l, number(0, 0, 0), 0, "0")
	wantText(t, "a number", l, number(0, -125, 3), 0, "-0.125")
	wantText(t, "the least number", l, number(0, 1-api.MaxCoef, 0), 0, "-999999999999999")
	wantText(t, "the smallest number", l, number(0, 1, api.MaxScale), 0, "0.000000001")
	wantText(t, "a string", l, text(0, ""), 0, `""`)
	wantText(t, "a string of signs that are escaped", l, text(0, "a\"\\/\x00\x01\b\t\n\f\r\x1f\x7f"), 0, `"a\"\\/\u0000\u0001\b\t\n\f\r\u001f`+"\x7f\"")
	wantText(t, "a string of signs above 127", l, text(0, "né\u2028\U0001d11e<&>"), 0, "\"né\u2028\U0001d11e<&>\"")
	wantText(t, "a string like what isn't seen", l, text(0, `{"#":null}`), 0, `"{\"#\":null}"`)
	wantText(t, "a bad one without a text", l, node.Wrong(0, ""), 0, `{"#!":""}`)
	wantText(t, "a bad one, quoted", l, node.Wrong(0, "a\"\n"), 0, `{"#!":"a\"\n"}`)
}

func TestArraysAndObjects(t *testing.T) {
	l := lowHigh()
	wantText(t, "an empty array", l, array(l, 0), 0, "[]")
	wantText(t, "an empty object", l, object(l, 0, ""), 0, "{}")
	wantText(t, "an empty array that is high", l, array(l, 1), 1, `{"#":"high","=":[]}`)
	wantText(t, "an empty object that is high", l, object(l, 1, ""), 1, `{"#":"high","=":{}}`)
	one, two, bad := number(0, 1, 0), number(1, 2, 0), node.Wrong(1, "kind")
	wantText(t, "arrays in one", l, array(l, 0, array(l, 0, one), array(l, 0), one, one), 0, `[[1],[],1,1]`)
	n := object(l, 0, "a b c d", one, two, array(l, 0, bad, one), bad)
	wantText(t, "an object", l, n, 0, `{"a":1,"b":{"#":null},"c":[{"#":null},1],"d":{"#":null}}`)
	wantText(t, "an object", l, n, 1, `{"a":1,"b":{"#":"high","=":2},"c":[{"#":"high","=":{"#!":"kind"}},1],"d":{"#":"high","=":{"#!":"kind"}}}`)
	wantText(t, "a long array", l, array(l, 0, slices.Repeat([]api.Node{one}, 50000)...), 0, "[1"+strings.Repeat(",1", 49999)+"]")
}

func TestKeysAreWrittenAsInEnvelopes(t *testing.T) {
	l := lowHigh()
	n := node.Object(l, 0, []string{"", "\"", "#", "#!", "##", "#a", "=", "a#", "é\n"}, slices.Repeat([]api.Node{leaf(0, api.Null)}, 9))
	if !node.Is(l, n) {
		t.Fatal("no node")
	}
	wantText(t, "keys", l, n, 0, `{"":null,"\"":null,"##":null,"##!":null,"###":null,"##a":null,"=":null,"a#":null,"é\n":null}`)
	wantText(t, "what is like an envelope", l, object(l, 0, "# =", text(0, "high"), number(0, 1, 0)), 0, `{"##":"high","=":1}`)
	wantText(t, "what is like a hole", l, object(l, 0, "#", leaf(0, api.Null)), 0, `{"##":null}`)
	wantText(t, "what is like a bad one", l, object(l, 0, "#!", text(0, "kind")), 0, `{"##!":"kind"}`)
}

func TestItemsAreUnderTheLabelThatCounts(t *testing.T) {
	l := chain()
	n := array(l, 1, text(0, "a"), text(1, "b"), text(2, "c"), array(l, 0, text(1, "d")))
	wantText(t, "an array of the middle", l, n, 0, `{"#":null}`)
	wantText(t, "an array of the middle", l, n, 1, `{"#":"mid","=":["a","b",{"#":null},["d"]]}`)
	wantText(t, "an array of the middle", l, n, 2, `{"#":"mid","=":["a","b",{"#":"high","=":"c"},["d"]]}`)
	wantText(t, "a label two deep", l, array(l, 0, array(l, 1, array(l, 2, array(l, 0, text(1, "x"))))), 2, `[{"#":"mid","=":[{"#":"high","=":[["x"]]}]}]`)
	wantText(t, "an object of the top", l, object(l, 2, "a b", array(l, 1, text(0, "x")), text(2, "y")), 2, `{"#":"high","=":{"a":["x"],"b":"y"}}`)
	s := sides()
	// The label that counts is neither the item's own nor that of what it is in.
	m := array(s, 1, array(s, 2, text(1, "x"), text(3, "y")), text(1, "z"))
	wantText(t, "side by side", s, m, 0, `{"#":null}`)
	wantText(t, "side by side", s, m, 1, `{"#":"a","=":[{"#":null},"z"]}`)
	wantText(t, "side by side", s, m, 2, `{"#":null}`)
	wantText(t, "side by side", s, m, 3, `{"#":"a","=":[{"#":"top","=":["x","y"]},"z"]}`)
}

func TestTheBottomIsUnderAll(t *testing.T) {
	l := lattice([]string{"high", "low"}, [2]int{1, 0})
	n := array(l, 1, text(1, "a"), text(0, "b"))
	wantText(t, "the bottom not being 0", l, n, 1, `["a",{"#":null}]`)
	wantText(t, "the bottom not being 0", l, n, 0, `["a",{"#":"high","=":"b"}]`)
	wantText(t, "one level", lattice([]string{"only"}), array(l, 0, text(0, "a")), 0, `["a"]`)
}

func TestTheGreatestLength(t *testing.T) {
	l := lowHigh()
	// What isn't seen has a length, too.
	wantMost(t, "what isn't seen", l, leaf(1, api.Null), 0, 10, `{"#":null}`, true)
	wantMost(t, "what isn't seen", l, leaf(1, api.Null), 0, 9, "", false)
	wantMost(t, "a long one that isn't seen", l, text(1, strings.Repeat("a", 1000)), 0, 10, `{"#":null}`, true)
	long := strings.Repeat("a", api.MaxText-2)
	wantText(t, "a long string", l, text(0, long), 0, `"`+long+`"`)
	wantText(t, "a long bad one", l, node.Wrong(0, long), 0, `{"#!":"`+long+`"}`)
	wantText(t, "a long key", l, object(l, 0, long, leaf(0, api.True)), 0, `{"`+long+`":true}`)
	wantText(t, "a long key, with signs that are escaped", l, node.Object(l, 0, []string{"#" + strings.Repeat("\x01é", 100)}, []api.Node{leaf(0, api.True)}), 0, `{"##`+strings.Repeat(`\u0001é`, 100)+`":true}`)
	n := object(l, 0, "a b", array(l, 1, text(0, "x"), text(0, "y")), array(l, 0, leaf(1, api.Null)))
	for a := range 2 {
		want := shown(l, n, a, 0)
		for most := -2; most < 2*len(want); most++ {
			if most < len(want) {
				wantMost(t, "some node", l, n, a, most, "", false)
			} else {
				wantMost(t, "some node", l, n, a, most, want, true)
			}
		}
	}
}

func TestWhatIsNoLevelSeesNothing(t *testing.T) {
	for _, l := range shapes() {
		for _, a := range noLevels(l) {
			for _, n := range []api.Node{leaf(l.Bottom(), api.Null), array(l, l.Bottom(), text(l.Bottom(), "a")), leaf(l.Top(), api.True)} {
				wantText(t, "what nobody sees", l, n, a, `{"#":null}`)
			}
		}
	}
	for _, a := range []int{0, 1, -1, math.MaxInt} {
		wantText(t, "what is of no lattice", nil, text(0, "a"), a, `{"#":null}`)
	}
}

func TestTextOfSmallOnes(t *testing.T) {
	for i, l := range shapes() {
		if l.Size() > 4 {
			continue
		}
		for _, n := range small(l) {
			if !node.Is(l, n) {
				t.Fatalf("no node: %s", brief(n))
			}
			wantModel(t, fmt.Sprintf("a small one of the lattice %d", i), l, n)
		}
	}
}

func TestTextOfSome(t *testing.T) {
	r := rand.New(rand.NewSource(12))
	for i, l := range shapes() {
		for range 400 {
			n := someNode(r, l, 5)
			if !node.Is(l, n) {
				t.Fatalf("no node: %s", brief(n))
			}
			wantModel(t, fmt.Sprintf("some node of the lattice %d", i), l, n)
		}
	}
}

func TestTextOfSharedLists(t *testing.T) {
	l := chain()
	list := []api.Node{text(0, "a"), text(1, "b"), text(2, "c")}
	keys := []string{"#", "k", "l"}
	n := array(l, 0, array(l, 1, list...), array(l, 0, list...), array(l, 2, list...), node.Object(l, 0, keys, list), node.Object(l, 1, keys[:2], list[:2]), node.Object(l, 1, []string{"x", "y"}, list[1:]), array(l, 0, list[:1]...))
	wantModel(t, "one list under several labels", l, n)
	wantModel(t, "it under others", l, array(l, 1, n, array(l, 2, n, n), array(l, 0, n)))
	wantText(t, "it under the bottom, and under another one", l, array(l, 0, array(l, 1, list...), array(l, 0, list...)), 1, `[{"#":"mid","=":["a","b",{"#":null}]},["a",{"#":"mid","=":"b"},{"#":null}]]`)
}

// What shares items can be far longer than it is: whether it is short enough is told all the same.
func TestTextOfWhatIsSharedOften(t *testing.T) {
	l := chain()
	in := array(l, 0, text(1, "a"), number(2, 7, 0))
	want := []string{`[{"#":null},{"#":null}]`, `[{"#":"mid","=":"a"},{"#":null}]`, `[{"#":"mid","=":"a"},{"#":"high","=":7}]`}
	for a := range want {
		wanted := want[a]
		for n := range 12 {
			wantText(t, "what is shared often", l, double(l, in, n), a, wanted)
			wanted = "[" + wanted + "," + wanted + "]"
		}
		for _, n := range []int{40, 57, 58, 59, 60, 61, 62, 63, 64, 65, 1000, 100000} {
			wantNone(t, "what is shared far too often", l, double(l, in, n), a)
			wantText(t, "it, where it isn't seen", l, array(l, 1, double(l, in, n)), 0, `{"#":null}`)
		}
	}
	keyed := object(l, 0, "a b", in, in)
	for range 1000 {
		keyed = node.Object(l, 0, []string{"a", "b"}, []api.Node{keyed, keyed})
	}
	wantNone(t, "objects that are shared far too often", l, keyed, 2)
	wide := array(l, 0, slices.Repeat([]api.Node{text(0, "a")}, 30000)...)
	wide = array(l, 0, slices.Repeat([]api.Node{wide}, 30000)...)
	wantMost(t, "a wide one", l, wide, 0, api.MaxText, "", false)
	wantMost(t, "a wide one", l, wide, 0, math.MaxInt, "", false)
}

func TestTextOfDeepOnes(t *testing.T) {
	l := chain()
	const count = 200000
	n := nest(l, array(l, 1, text(0, "a"), text(2, "b")), count)
	around := func(in string) string { return strings.Repeat("[", count) + in + strings.Repeat(",true]", count) }
	for a, in := range []string{`{"#":null}`, `{"#":"mid","=":["a",{"#":null}]}`, `{"#":"mid","=":["a",{"#":"high","=":"b"}]}`} {
		want := around(in)
		wantMost(t, "a deep one", l, n, a, len(want), want, true)
		wantMost(t, "a deep one", l, n, a, len(want)-1, "", false)
	}
	// A node may be deeper than a value of JSON.
	for _, deep := range []int{api.MaxDepth - 1, api.MaxDepth, api.MaxDepth + 1, 1000} {
		wantModel(t, "some depth", l, nest(l, text(1, "a"), deep))
	}
}

// Nothing is promised of nodes that may not be, but that there is an answer: of what is seen no text is made, and what isn't seen isn't looked at.
func TestTextOfStrangeOnes(t *testing.T) {
	l := chain()
	for _, n := range strange(1) {
		for _, a := range []int{1, 2} {
			wantNone(t, "a strange one, "+brief(n), l, n, a)
			wantNone(t, "one in an array, "+brief(n), l, array(l, 0, text(0, "a"), n), a)
			wantNone(t, "one in an object, "+brief(n), l, object(l, 1, "a b", n, text(0, "a")), a)
		}
		wantText(t, "one that isn't seen, "+brief(n), l, array(l, 0, text(0, "a"), n), 0, `["a",{"#":null}]`)
	}
	for _, a := range noLevels(l) {
		n := array(l, 0, leaf(a, api.True))
		wantText(t, "a label that is no level", l, n, 1, `[{"#":null}]`)
		wantText(t, "a label that is no level", l, n, 2, `[{"#":"high","=":true}]`)
		wantText(t, "a Deep that isn't right", l, api.Node{Deep: a, Kind: api.True}, 0, "true")
	}
}

func TestTextOfWhatHoldsItself(t *testing.T) {
	l := chain()
	for n := 1; n < 20; n++ {
		for _, a := range []int{1, 2} {
			wantNone(t, "what holds itself", l, ring(1, n), a)
			wantNone(t, "what has it in it", l, array(l, 0, text(0, "a"), ring(1, n)), a)
			wantNone(t, "a leaf with it in it", l, api.Node{Kind: api.String, Items: []api.Node{ring(1, n)}}, a)
		}
		wantText(t, "what holds itself, and isn't seen", l, array(l, 0, text(0, "a"), ring(1, n)), 0, `["a",{"#":null}]`)
	}
}

// Promise 12.2.

// wantBack reads what is shown: only what is erased to the same is shown so.
func wantBack(t *testing.T, l *level.Lattice, n api.Node) {
	t.Helper()
	for a := range l.Size() {
		s, ok := show.Text(l, n, a, math.MaxInt)
		if !ok {
			t.Fatalf("%s isn't shown", brief(n))
		}
		got, err := back(l, s)
		if err != nil {
			t.Errorf("what is shown of %s at %d, %s, can't be read: %v", brief(n), a, brief(s), err)
		} else if want := erase.At(l, n, a); !node.Same(got, want) {
			t.Errorf("what is shown of %s at %d, %s, is read as %s, not %s", brief(n), a, brief(s), brief(got), brief(want))
		}
	}
}

// wantAlike holds whether two nodes are shown the same against whether they are alike.
func wantAlike(t *testing.T, l *level.Lattice, n, m api.Node) {
	t.Helper()
	for a := range l.Size() {
		s, ok := show.Text(l, n, a, math.MaxInt)
		other, told := show.Text(l, m, a, math.MaxInt)
		if alike := erase.Alike(l, n, m, a); !ok || !told || (s == other) != alike {
			t.Errorf("%s and %s at %d: shown are %s and %s, where Alike is %v", brief(n), brief(m), a, brief(s), brief(other), alike)
		}
	}
}

func TestSmallOnesAreShownTheSameIfAlike(t *testing.T) {
	for _, l := range []*level.Lattice{lattice([]string{"only"}), lowHigh(), chain(), sides()} {
		all := small(l)
		for a := range l.Size() {
			// Texts and what is erased are told in one row, so that two of them differ just where the others do.
			var rows []string
			erased := map[string]api.Node{}
			for _, n := range all {
				s, _ := show.Text(l, n, a, math.MaxInt)
				at := erase.At(l, n, a)
				if first, ok := erased[s]; ok && !node.Same(first, at) {
					t.Errorf("%s is shown of two that aren't alike at %d", s, a)
				} else if !ok {
					erased[s] = at
					rows = append(rows, s)
				}
			}
			for i, s := range rows {
				for _, other := range rows[:i] {
					if node.Same(erased[s], erased[other]) {
						t.Errorf("%s and %s are shown of two that are alike at %d", s, other, a)
					}
				}
			}
		}
		for _, n := range all {
			wantBack(t, l, n)
		}
	}
}

func TestSomeAreShownTheSameIfAlike(t *testing.T) {
	r := rand.New(rand.NewSource(121))
	for _, l := range shapes() {
		for range 300 {
			n, m := someNode(r, l, 5), someNode(r, l, 3)
			wantBack(t, l, n)
			wantAlike(t, l, n, m)
			for a := range l.Size() {
				wantAlike(t, l, n, erase.Swap(l, n, m, a))
			}
		}
	}
}

// What isn't seen has no say in whether something is short enough, either.
func TestAlikeOnesAreShownUpToTheSameLength(t *testing.T) {
	r := rand.New(rand.NewSource(122))
	for _, l := range shapes() {
		for range 100 {
			n, m := someNode(r, l, 4), someNode(r, l, 4)
			for a := range l.Size() {
				other := erase.Swap(l, n, m, a)
				for most := -1; most < 60; most++ {
					s, ok := show.Text(l, n, a, most)
					wantMost(t, "what is alike", l, other, a, most, s, ok)
				}
			}
		}
	}
}

// What the top is shown, as far as nothing is bad in it, is read by layer 10 as the node.
func TestTheTopIsShownWhatIsEncoded(t *testing.T) {
	r := rand.New(rand.NewSource(123))
	for _, l := range shapes() {
		for range 300 {
			n := someNode(r, l, 4)
			v, e := envelope.Encode(l, n)
			if e != api.OK {
				continue
			}
			s, _ := show.Text(l, n, l.Top(), math.MaxInt)
			read, _, e := jtext.Parse([]byte(s))
			if e != api.OK {
				t.Fatalf("%s is no text of JSON", brief(s))
			}
			m, e := envelope.Decode(l, read)
			if e != api.OK || !erase.Alike(l, n, m, l.Top()) {
				t.Errorf("what is shown of %s, %s, is read as %s, %d", brief(n), brief(s), brief(m), e)
			}
			if first, _ := envelope.Decode(l, v); !erase.Alike(l, first, m, l.Top()) {
				t.Errorf("what is encoded of %s, and what is shown, are read as two", brief(n))
			}
		}
	}
}

// What is handed in.

func TestWhatIsHandedInIsLeft(t *testing.T) {
	l := lowHigh()
	items := []api.Node{text(0, "a"), array(l, 1, text(0, "b")), text(0, "c")}
	keys := []string{"#", "k", "z"}
	n := node.Object(l, 0, keys[:2], items[:2])
	for a := range 2 {
		first, _ := show.Text(l, n, a, 1000)
		wantMost(t, "it once more", l, n, a, 1000, first, true)
	}
	want := []api.Node{text(0, "a"), array(l, 1, text(0, "b")), text(0, "c")}
	if !node.Same(array(l, 0, items...), array(l, 0, want...)) || !slices.Equal(keys, []string{"#", "k", "z"}) {
		t.Error("what was handed in, or the room behind it, is another one")
	}
}
