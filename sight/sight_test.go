package sight_test

import (
	"math"
	"testing"

	"keyhole/api"
	"keyhole/level"
	"keyhole/sight"
)

// sides has the levels 0 and 3, and between them 1 and 2, side by side.
func sides() *level.Lattice {
	l, e := level.New(api.Policy{
		Names: []string{"low", "a", "b", "top"},
		Below: [][2]int{{0, 1}, {0, 2}, {1, 3}, {2, 3}},
	})
	if e != api.OK {
		panic("no lattice")
	}
	return l
}

// wantLook asks of a node with a label and one item, which is under another label.
func wantLook(t *testing.T, l *level.Lattice, own, under, at, want int, seen bool) {
	t.Helper()
	n := api.Node{Label: own, Kind: api.Array, Items: []api.Node{{Label: own}}}
	eye := sight.Eye{Lattice: l, At: at}
	if label, ok := eye.Look(&n, under); label != want || ok != seen {
		t.Errorf("Look at %d, of %d under %d, is %d, %v, not %d, %v", at, own, under, label, ok, want, seen)
	}
	items := 0
	if seen {
		items = 1
	}
	if list, label := eye.Inner(&n, under); label != want || len(list) != items {
		t.Errorf("Inner at %d, of %d under %d, has %d items, and %d, not %d, and %d", at, own, under, len(list), label, items, want)
	}
}

func TestLookAndInner(t *testing.T) {
	l := sides()
	for own := range l.Size() {
		for under := range l.Size() {
			label := l.Join(own, under)
			for at := range l.Size() {
				wantLook(t, l, own, under, at, label, l.Leq(label, at))
			}
		}
	}
	wantLook(t, l, 1, 2, 1, 3, false)
	wantLook(t, l, 1, 2, 3, 3, true)
	wantLook(t, l, 0, 1, 2, 1, false)
}

func TestWhatIsNoLevel(t *testing.T) {
	l := sides()
	for _, a := range []int{-1, 4, api.MaxLevels, math.MaxInt, math.MinInt} {
		wantLook(t, l, 0, 0, a, 0, false)
		// A label that is no level counts as the top.
		wantLook(t, l, a, 0, 2, 3, false)
		wantLook(t, l, a, 0, 3, 3, true)
		wantLook(t, l, 0, a, 3, 3, true)
		wantLook(t, nil, 0, 0, a, 0, false)
	}
	wantLook(t, nil, 0, 0, 0, 0, false)
}
