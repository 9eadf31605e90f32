package within_test

import (
	"math"
	"slices"
	"testing"

	"keyhole/within"
)

// thing has things in it.
type thing struct {
	name int
	in   []thing
}

func inner(x *thing) []thing { return x.in }

func named(a, b *thing) bool { return a.name == b.name }

// tree is a thing of that name that has these in it.
func tree(name int, in ...thing) thing { return thing{name, in} }

// double has a thing twice in it, which has one twice in it, and so on, so many times.
func double(n int) thing {
	x := tree(1)
	for range n {
		x = tree(1, x, x)
	}
	return x
}

// ring is what is in itself, so many deep.
func ring(n int) thing {
	things := make([]thing, n)
	for i := range n {
		next := (i + 1) % n
		things[i] = tree(1, things[next:next+1]...)
	}
	return things[0]
}

// row is a thing in a thing, and so on, so many times.
func row(n int) thing {
	x := tree(1)
	for range n {
		x = tree(1, x)
	}
	return x
}

func wantSame(t *testing.T, title string, a, b []thing, want bool) {
	t.Helper()
	if within.Same(a, b, inner, named) != want || within.Same(b, a, inner, named) != want {
		t.Errorf("Same of %s isn't %v both ways round", title, want)
	}
}

func TestSame(t *testing.T) {
	a := []thing{tree(1, tree(2), tree(3, tree(4))), tree(5)}
	wantSame(t, "none and none", nil, []thing{}, true)
	wantSame(t, "none and one", nil, a[:1], false)
	wantSame(t, "two of the same", a, []thing{tree(1, tree(2), tree(3, tree(4))), tree(5)}, true)
	wantSame(t, "one and two", a[:1], a, false)
	wantSame(t, "another name at the end", a, []thing{tree(1, tree(2), tree(3, tree(4))), tree(6)}, false)
	wantSame(t, "another name far in", a, []thing{tree(1, tree(2), tree(3, tree(0))), tree(5)}, false)
	wantSame(t, "one less far in", a, []thing{tree(1, tree(2), tree(3)), tree(5)}, false)
	wantSame(t, "one more far in", a, []thing{tree(1, tree(2, tree(4)), tree(3, tree(4))), tree(5)}, false)
	wantSame(t, "shared ones", []thing{double(70)}, []thing{double(70)}, true)
	wantSame(t, "shared ones, one deeper", []thing{double(70)}, []thing{double(71)}, false)
	wantSame(t, "deep ones", []thing{row(200000)}, []thing{row(200000)}, true)
	wantSame(t, "what is in itself", []thing{ring(2)}, []thing{ring(3)}, true)
	wantSame(t, "what is in itself, and a row", []thing{ring(2)}, []thing{row(20)}, false)
}

func TestTurn(t *testing.T) {
	turn := func(x *thing, in []thing) thing { return thing{10 * x.name, in} }
	got := within.Turn([]thing{tree(1, tree(2), tree(3, tree(4))), tree(5)}, inner, turn)
	wantSame(t, "what was turned", got, []thing{tree(10, tree(20), tree(30, tree(40))), tree(50)}, true)
	if len(within.Turn(nil, inner, turn)) != 0 {
		t.Error("of nothing something is made")
	}
	tens := within.Turn([]thing{double(70)}, inner, turn)
	if &tens[0].in[0].in[0] != &tens[0].in[1].in[0] {
		t.Error("what was shared isn't")
	}
	held := within.Turn([]thing{ring(3)}, inner, turn)
	if held[0].in[0].in[0].in[0].in[0].name != 10 {
		t.Error("what is in itself isn't turned")
	}
	if deep := within.Turn([]thing{row(200000)}, inner, turn); deep[0].in[0].in[0].name != 10 {
		t.Error("what is deep isn't turned")
	}
}

func wantTally(t *testing.T, title string, list []thing, want int, told bool) {
	t.Helper()
	open := func(list []thing) bool { return list[0].name >= 0 }
	// The number is 3 for each thing that has none in it, and 10 times that of those that have.
	add := func(sum, in int) (int, bool) { return sum + max(3, 10*in), sum < 100 }
	if got, ok := within.Tally(list, inner, open, add); got != want || ok != told {
		t.Errorf("Tally of %s is %d, %v, not %d, %v", title, got, ok, want, told)
	}
}

func TestTally(t *testing.T) {
	wantTally(t, "nothing", nil, 0, true)
	wantTally(t, "one", []thing{tree(1)}, 3, true)
	wantTally(t, "two", []thing{tree(1), tree(1)}, 6, true)
	wantTally(t, "two in one", []thing{tree(1, tree(1), tree(1))}, 60, true)
	wantTally(t, "two in one, and one", []thing{tree(1, tree(1), tree(1)), tree(1)}, 63, true)
	wantTally(t, "so many that it is over", []thing{tree(1, tree(1), tree(1)), tree(1, tree(1), tree(1)), tree(1)}, 0, false)
	wantTally(t, "a list that isn't gone on into", []thing{tree(1), tree(1, tree(-1))}, 0, false)
	wantTally(t, "a list that isn't gone on into at once", []thing{tree(-1)}, 0, false)
	wantTally(t, "what is in itself", []thing{ring(4)}, 0, false)
	list := []thing{tree(1), tree(1)}
	wantTally(t, "one list twice", []thing{tree(1, list...), tree(1, list[:1]...)}, 90, true)
}

func TestTallyOpensOnce(t *testing.T) {
	var opened []int
	open := func(list []thing) bool {
		opened = append(opened, list[0].name)
		return true
	}
	add := func(sum, in int) (int, bool) { return max(sum, in+1), true }
	x := tree(2, tree(3))
	deep, ok := within.Tally([]thing{tree(1, x, x), x}, inner, open, add)
	slices.Sort(opened)
	if deep != 3 || !ok || !slices.Equal(opened, []int{1, 2, 3}) {
		t.Errorf("the depth is %d, %v; opened were %v", deep, ok, opened)
	}
}

func wantCount(t *testing.T, x thing, most, want int, held bool) {
	t.Helper()
	if got, ok := within.Count(x, inner, most); got != want || ok != held {
		t.Errorf("Count, at most %d, is %d, %v, not %d, %v", most, got, ok, want, held)
	}
}

func TestCount(t *testing.T) {
	for n := range 40 {
		size := 1<<(n+1) - 1
		wantCount(t, double(n), size, size, true)
		wantCount(t, double(n), size-1, 0, false)
		wantCount(t, double(n), math.MaxInt, size, true)
		wantCount(t, row(n), n+1, n+1, true)
		wantCount(t, row(n), n, 0, false)
	}
	for _, most := range []int{math.MinInt, -1, 0} {
		wantCount(t, tree(1), most, 0, false)
	}
	wantCount(t, double(62), math.MaxInt, math.MaxInt, true)
	wantCount(t, double(63), math.MaxInt, 0, false)
	wantCount(t, ring(5), math.MaxInt, 0, false)
	wantCount(t, row(200000), math.MaxInt, 200001, true)
}

func TestCountTellsFarTooManyEarly(t *testing.T) {
	asked := 0
	counted := func(x *thing) []thing {
		asked++
		return x.in
	}
	if _, ok := within.Count(tree(1, make([]thing, 1000)...), counted, 500); ok || asked > 10 {
		t.Errorf("Count is %v, and asked %d things", ok, asked)
	}
}

func TestKept(t *testing.T) {
	kept := within.Kept[thing, int]{}
	worked := 0
	var size func(list []thing) int
	size = func(list []thing) int {
		n := len(list)
		if n > 0 {
			worked++
		}
		for i := range list {
			n += kept.Of(list[i].in, size)
		}
		return n
	}
	wantSize := func(title string, list []thing, want, more int) {
		t.Helper()
		before := worked
		if got := kept.Of(list, size); got != want || worked-before != more {
			t.Errorf("%s: %d, not %d, after %d more lists, not %d", title, got, want, worked-before, more)
		}
	}
	list := []thing{tree(1), tree(2, tree(3), tree(4)), tree(5)}
	wantSize("none", nil, 0, 0)
	wantSize("empty", []thing{}, 0, 0)
	wantSize("a list", list, 5, 2)
	wantSize("it once more", list, 5, 0)
	wantSize("a part of it", list[:2], 4, 1)
	wantSize("its end", list[1:], 4, 1)
	wantSize("what is in it", list[1].in, 2, 0)
	wantSize("shared ones", []thing{double(60)}, 1<<61-1, 61)
}

// wantFold holds what is made of a list, which stands under a number: each thing adds its name to that number, and the list in it stands under the sum, up to 9; of a list all sums are told, and those of the lists in it.
func wantFold(t *testing.T, title string, list []thing, under, want, works int, told bool) {
	t.Helper()
	worked := 0
	lower := func(x *thing, under int) ([]thing, int) { return x.in, min(under+x.name, 9) }
	work := func(list []thing, under int, in func(int) int) int {
		if len(list) > 0 {
			worked++
		}
		sum := 0
		for i := range list {
			sum += under + list[i].name + in(i)
		}
		return sum
	}
	if got, ok := within.Fold(list, under, lower, work); got != want || ok != told || worked != works {
		t.Errorf("Fold of %s is %d, %v, after %d works, not %d, %v, after %d", title, got, ok, worked, want, told, works)
	}
}

func TestFold(t *testing.T) {
	wantFold(t, "nothing", nil, 5, 0, 0, true)
	wantFold(t, "one", []thing{tree(2)}, 5, 7, 1, true)
	wantFold(t, "two", []thing{tree(2), tree(3)}, 1, 3+4, 1, true)
	wantFold(t, "two in one, and one", []thing{tree(2, tree(3), tree(4, tree(1))), tree(1)}, 0, 2+5+6+7+1, 3, true)
	list := []thing{tree(1), tree(2)}
	wantFold(t, "a list twice under the same", []thing{tree(3, list...), tree(3, list...)}, 0, 3+4+5+3+4+5, 2, true)
	wantFold(t, "a list twice under unlike ones", []thing{tree(3, list...), tree(4, list...)}, 0, 3+4+5+4+5+6, 3, true)
	wantFold(t, "a list, and a part of it", []thing{tree(3, list...), tree(3, list[:1]...), tree(3, list[1:]...)}, 0, 3+4+5+3+4+3+5, 4, true)
	wantFold(t, "shared ones", []thing{double(30)}, 9, 10*(1<<31-1), 31, true)
	wantFold(t, "shared ones, under what rises", []thing{double(3)}, 0, 1+2*2+4*3+8*4, 4, true)
	wantFold(t, "deep ones", []thing{row(200000)}, 9, 10*200001, 200001, true)
	for n := 1; n < 12; n++ {
		wantFold(t, "what stands in itself", []thing{tree(1), ring(n)}, 0, 0, 0, false)
	}
}

func TestFoldGoesOnlyWhereInnerLeads(t *testing.T) {
	var worked []int
	lower := func(x *thing, deep int) ([]thing, int) {
		if deep == 3 {
			return nil, deep
		}
		return x.in, deep + 1
	}
	work := func(list []thing, deep int, in func(int) int) int {
		if len(list) == 0 {
			return 0
		}
		worked = append(worked, deep)
		return 1 + in(0)
	}
	// What stands in itself ends, where it is led on to under something else each time, and then no more.
	if got, ok := within.Fold([]thing{ring(2)}, 0, lower, work); got != 4 || !ok || !slices.Equal(worked, []int{3, 2, 1, 0}) {
		t.Errorf("Fold is %d, %v, after the works %v", got, ok, worked)
	}
}

// wantWalk holds the names that a walk tells till it is stopped, or ends by itself.
func wantWalk(t *testing.T, title string, list []thing, stop, often int, want []int, told bool) {
	t.Helper()
	var got []int
	see := func(x *thing) bool {
		got = append(got, x.name)
		return len(got) != stop
	}
	if ok := within.Walk(list, inner, see, often); ok != told || !slices.Equal(got, want) {
		t.Errorf("a walk of %s that stops at %d, asking %d times, is %v, and tells %v, not %v", title, stop, often, ok, got, want)
	}
}

func TestWalk(t *testing.T) {
	wantWalk(t, "nothing", nil, 0, 9, nil, true)
	list := []thing{tree(1, tree(2), tree(3, tree(4), tree(5))), tree(6), tree(7, tree(8))}
	all := []int{1, 2, 3, 4, 5, 6, 7, 8}
	wantWalk(t, "a list", list, 0, 0, all, true)
	wantWalk(t, "a list", list, 9, 0, all, true)
	for stop := 1; stop <= 8; stop++ {
		wantWalk(t, "a list", list, stop, 0, all[:stop], false)
	}
	twice := tree(1, tree(2), tree(3))
	wantWalk(t, "shared ones", []thing{twice, twice}, 0, 0, []int{1, 2, 3, 1, 2, 3}, true)
	mixed := tree(4, twice.in[0], tree(5, twice.in...))
	wantWalk(t, "shared ones within one another", []thing{twice, mixed}, 0, 0, []int{1, 2, 3, 4, 2, 5, 2, 3}, true)
	asked := 0
	count := func(*thing) bool {
		asked++
		return true
	}
	if !within.Walk([]thing{row(200000)}, inner, count, 0) || asked != 200001 {
		t.Errorf("a walk of what is deep asks %d times", asked)
	}
}

func TestWalkOfWhatStandsInItself(t *testing.T) {
	// In the list 2, 3, 4 the second one has that list in it, and what is behind it is never come to.
	round := []thing{tree(2), tree(3), tree(4)}
	round[1].in = round
	list := []thing{tree(1, round...), tree(5)}
	rounds := []int{1, 2, 3, 2, 3, 2, 3, 2, 3, 2, 3}
	for stop := 1; stop <= len(rounds); stop++ {
		wantWalk(t, "what stands in itself", list, stop, 100, rounds[:stop], false)
	}
	for often := -1; often <= len(rounds); often++ {
		wantWalk(t, "what stands in itself", list, 0, often, rounds[:max(3, (often/2)*2+1)], true)
	}
	// The list that stands in itself has another one behind it, in which it stands again.
	outer := []thing{tree(1), tree(2)}
	middle := []thing{tree(3), tree(4, outer...)}
	outer[0].in = middle
	wantWalk(t, "what stands in what stands in itself", outer, 10, 100, []int{1, 3, 4, 1, 3, 4, 1, 3, 4, 1}, false)
	for n := 1; n < 5; n++ {
		asked := 0
		see := func(*thing) bool {
			asked++
			return asked < 1000000
		}
		if within.Walk([]thing{ring(n)}, inner, see, math.MaxInt) || asked != 1000000 {
			t.Errorf("a walk of a ring of %d asks %d times", n, asked)
		}
	}
}
