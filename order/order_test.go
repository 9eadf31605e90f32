package order_test

import (
	"fmt"
	"math"
	"math/rand"
	"slices"
	"strconv"
	"strings"
	"testing"

	"keyhole/api"
	"keyhole/jval"
	"keyhole/order"
)

func number(coef int64, scale int) api.Value {
	return api.Value{Kind: api.Number, Num: api.Num{Coef: coef, Scale: scale}}
}

func object(keys []string, items ...api.Value) api.Value {
	return api.Value{Kind: api.Object, Keys: keys, Items: items}
}

func array(items ...api.Value) api.Value { return api.Value{Kind: api.Array, Items: items} }

func text(s string) api.Value { return api.Value{Kind: api.String, Str: s} }

func bad(s string) api.Value { return api.Value{Kind: api.Bad, Str: s} }

func numbers(l ...int64) []api.Value {
	var out []api.Value
	for _, n := range l {
		out = append(out, number(n, 0))
	}
	return out
}

// long is an array of so many nulls, and what is put behind them.
func long(n int, behind ...api.Value) api.Value {
	return array(append(make([]api.Value, n), behind...)...)
}

// nest is a value that so many arrays are around.
func nest(v api.Value, n int) api.Value {
	for range n {
		v = array(v)
	}
	return v
}

// double is a value that is twice in an array, which is twice in one, and so on, so many times.
func double(v api.Value, n int) api.Value {
	for range n {
		v = array(v, v)
	}
	return v
}

// ring is an array that holds itself.
func ring() api.Value {
	items := make([]api.Value, 1)
	items[0].Kind, items[0].Items = api.Array, items
	return items[0]
}

// noKinds are numbers of no kind that is named.
var noKinds = []int{api.Hole, 9, 10, 256, -1, -2, math.MaxInt, math.MinInt}

// noNumbers are numbers that may not be.
var noNumbers = []api.Num{
	{Coef: 0, Scale: 1}, {Coef: 10, Scale: 1}, {Coef: -10, Scale: 1}, {Coef: 1, Scale: -1}, {Coef: 1, Scale: 10}, {Coef: -1, Scale: 10},
	{Coef: api.MaxCoef}, {Coef: -api.MaxCoef}, {Coef: math.MaxInt64}, {Coef: math.MinInt64, Scale: 9},
}

// rising are values, each of them ahead of the next one.
func rising() []api.Value {
	return []api.Value{
		{}, {Kind: api.False}, {Kind: api.True},
		number(1-api.MaxCoef, 0), number(-11, 0), number(-2, 0), number(-15, 1), number(-1, 0), number(-1, 9), number(0, 0),
		number(1, 9), number(999, 3), number(1, 0), number(15, 1), number(2, 0), number(10, 0), number(11, 0), number(api.MaxCoef-1, 1), number(api.MaxCoef-1, 0),
		text(""), text("\x00"), text("10"), text("9"), text("A"), text("a"), text("a\x00"), text("aa"), text("ab"), text("b"), text("\x7f"), text("\x80"), text("\u00e9"), text("\uffff"), text("\U00010000"), text("\xff"),
		array(), array(api.Value{}), array(api.Value{}, api.Value{}), array(api.Value{Kind: api.True}), array(number(1, 0), number(2, 0)), array(number(1, 0), number(3, 0)), array(number(1, 0), text("a")),
		array(number(2, 0)), array(array()), array(array(), api.Value{}), array(array(api.Value{})), array(object(nil)), array(bad("")),
		object(nil), object([]string{""}, bad("x")), object([]string{"", "a"}, api.Value{}, api.Value{}), object([]string{"a"}, number(1, 0)), object([]string{"a"}, number(2, 0)), object([]string{"a"}, bad("x")),
		object([]string{"a", "b"}, api.Value{}, number(9, 0)), object([]string{"a", "b"}, number(1, 0), number(2, 0)), object([]string{"a", "b"}, number(1, 0), number(3, 0)), object([]string{"a", "b"}, number(2, 0), number(1, 0)),
		object([]string{"a", "b", "c"}, api.Value{}, api.Value{}, api.Value{}), object([]string{"a", "c"}, api.Value{}, api.Value{}), object([]string{"aa"}, api.Value{}), object([]string{"b"}, api.Value{}),
		bad(""), bad("a"), bad("kind"), bad("kinds"), bad("\xff"),
		{Kind: api.Hole},
	}
}

func wantCompare(t *testing.T, title string, a, b api.Value, want int, answered bool) {
	t.Helper()
	if c, ok := order.Compare(a, b); c != want || ok != answered {
		t.Errorf("Compare of %s is %d, %v, not %d, %v", title, c, ok, want, answered)
	}
	if c, ok := order.Compare(b, a); c != -want || ok != answered {
		t.Errorf("Compare of %s, the other way round, is %d, %v, not %d, %v", title, c, ok, -want, answered)
	}
}

// wantList holds what Sort or Unique tells against values that are known by all their fields.
func wantList(t *testing.T, title string, got []api.Value, ok bool, want []api.Value, answered bool) {
	t.Helper()
	if ok != answered || !slices.EqualFunc(got, want, jval.Same) {
		t.Errorf("%s is %s, %v, not %s, %v", title, brief(got), ok, brief(want), answered)
	}
}

func wantFind(t *testing.T, title string, l []api.Value, v api.Value, want int, answered bool) {
	t.Helper()
	if i, ok := order.Find(l, v); i != want || ok != answered {
		t.Errorf("Find of %s is %d, %v, not %d, %v", title, i, ok, want, answered)
	}
}

// brief is what a test tells of values, cut where they are long.
func brief(v any) string {
	s := fmt.Sprintf("%+v", v)
	if len(s) > 1000 {
		s = s[:1000] + ".."
	}
	return strconv.QuoteToASCII(s)
}

// Promise 7.1: the order of all kinds.

func TestCompareRising(t *testing.T) {
	l := rising()
	for i := range l {
		for j := range i + 1 {
			title := strconv.Itoa(i) + " and " + strconv.Itoa(j)
			c := 1
			if i == j {
				c = 0
			}
			wantCompare(t, title, l[i], l[j], c, true)
			wantCompare(t, title+", in arrays", array(text("a"), l[i], api.Value{}), array(text("a"), l[j], text("z")), orElse(c, -1), true)
			wantCompare(t, title+", in objects", object([]string{"a", "b"}, l[i], api.Value{}), object([]string{"a", "b"}, l[j], text("z")), orElse(c, -1), true)
			wantCompare(t, title+", far in", nest(l[i], 100), nest(l[j], 100), c, true)
		}
	}
}

func orElse(c, other int) int {
	if c == 0 {
		return other
	}
	return c
}

func TestCompareUnnamedKinds(t *testing.T) {
	for _, kind := range noKinds {
		v := api.Value{Kind: kind}
		for _, other := range rising()[:len(rising())-1] {
			wantCompare(t, "kind "+strconv.Itoa(kind)+" and one that is named", v, other, 1, true)
		}
		for _, other := range noKinds {
			full := api.Value{Kind: other, Num: api.Num{Coef: 1}, Str: "a", Items: numbers(1), Keys: []string{"a"}}
			wantCompare(t, "kinds that aren't named", v, full, 0, true)
		}
	}
}

func TestCompareNumbersThatMayNotBe(t *testing.T) {
	for _, n := range noNumbers {
		v := api.Value{Kind: api.Number, Num: n}
		wantCompare(t, "a wrong number and 0", v, number(0, 0), 0, true)
		wantCompare(t, "a wrong number and the least one", v, number(1, 9), -1, true)
		wantCompare(t, "a wrong number and one below 0", v, number(-1, 9), 1, true)
		wantCompare(t, "a wrong number and a truth", v, api.Value{Kind: api.True}, 1, true)
		for _, m := range noNumbers {
			wantCompare(t, "two wrong numbers", v, api.Value{Kind: api.Number, Num: m}, 0, true)
		}
	}
}

// What a value's kind doesn't have isn't held against anything.
func TestCompareWhatAKindHasNot(t *testing.T) {
	for kind := api.Null; kind <= api.Bad; kind++ {
		plain := api.Value{Kind: kind}
		v := api.Value{Kind: kind, Num: api.Num{Coef: 1}, Str: "a", Items: numbers(1), Keys: []string{"a"}}
		switch kind {
		case api.Number:
			v.Num = api.Num{}
		case api.String, api.Bad:
			v.Str = ""
		case api.Array:
			v.Items = nil
		case api.Object:
			v.Items, v.Keys = nil, nil
		}
		wantCompare(t, "what kind "+strconv.Itoa(kind)+" hasn't", plain, v, 0, true)
	}
	wantCompare(t, "nil and empty arrays", array(), api.Value{Kind: api.Array, Items: []api.Value{}, Keys: []string{}}, 0, true)
	wantCompare(t, "nil and empty objects", object(nil), object([]string{}, []api.Value{}...), 0, true)
}

// Keys and items of objects that may not be are taken as they stand.
func TestCompareObjectsThatMayNotBe(t *testing.T) {
	one := api.Value{Kind: api.Number, Num: api.Num{Coef: 1}}
	wantCompare(t, "keys that don't rise", object([]string{"b", "a"}, one, one), object([]string{"a", "b"}, one, one), 1, true)
	wantCompare(t, "keys that don't rise, far on", object([]string{"b", "a"}, one, one), object([]string{"b", "c"}, one, one), -1, true)
	wantCompare(t, "keys twice", object([]string{"a", "a"}, one, one), object([]string{"a"}, one), 1, true)
	wantCompare(t, "keys that are no texts", object([]string{"\xff"}, one), object([]string{"\xfe"}, one), 1, true)
	wantCompare(t, "keys without items", object([]string{"a"}), object([]string{"a"}, one), -1, true)
	wantCompare(t, "keys without items, and greater ones", object([]string{"b"}), object([]string{"a"}, one), 1, true)
	wantCompare(t, "items without keys", object(nil, one), object(nil), 1, true)
	wantCompare(t, "items without keys, and keys", object(nil, one), object([]string{""}), -1, true)
	wantCompare(t, "more items than keys", object([]string{"a"}, one, one), object([]string{"a"}, one, text("a")), -1, true)
	wantCompare(t, "more items, and less", object([]string{"a"}, one, one), object([]string{"a"}, text("a")), -1, true)
}

// Promise 7.1: how many pairs are looked at.

func TestCompareAtTheBound(t *testing.T) {
	one, two := number(1, 0), number(2, 0)
	for n := api.MaxWalk - 6; n < api.MaxWalk+4; n++ {
		fits := n+1 <= api.MaxWalk
		wantCompare(t, "arrays of "+strconv.Itoa(n), long(n), long(n), 0, fits)
		wantCompare(t, "arrays that end at "+strconv.Itoa(n), long(n), long(n, one, two), sign(fits, -1), fits)
		fits = n+2 <= api.MaxWalk
		wantCompare(t, "arrays that differ at "+strconv.Itoa(n), long(n, one), long(n, two, one), sign(fits, -1), fits)
		wantCompare(t, "arrays that differ at "+strconv.Itoa(n)+" by kind", long(n, array()), long(n, one, one), sign(fits, 1), fits)
		wantCompare(t, "arrays that differ at "+strconv.Itoa(n)+", very long ones", long(n, one, long(5000)), long(n, two, long(5000)), sign(fits, -1), fits)
		fits = n+1 <= api.MaxWalk
		wantCompare(t, "nested arrays of "+strconv.Itoa(n), nest(one, n), nest(one, n), 0, fits)
		wantCompare(t, "nested arrays of "+strconv.Itoa(n)+" that differ", nest(two, n), nest(one, n), sign(fits, 1), fits)
	}
	wantCompare(t, "arrays that differ at the front", array(one, long(5000)), array(two, long(5000)), -1, true)
	wantCompare(t, "an array of one, and a very long one", array(api.Value{}), long(100000), -1, true)
	wantCompare(t, "no array, and a very long one", one, long(100000), -1, true)
}

func sign(fits bool, c int) int {
	if fits {
		return c
	}
	return 0
}

// All pairs of what is nested count, not those of one array alone.
func TestCompareCountsAllDepths(t *testing.T) {
	for n := range 13 {
		fits := 1<<(n+1)-1 <= api.MaxWalk
		wantCompare(t, "shared ones", double(text("a"), n), double(text("a"), n), 0, fits)
	}
	// 1 + 2047 + 2048 pairs, and one more.
	wantCompare(t, "two arrays in one", array(long(2046), long(2047)), array(long(2046), long(2047)), 0, true)
	wantCompare(t, "two arrays in one", array(long(2047), long(2047)), array(long(2047), long(2047)), 0, false)
	wantCompare(t, "two arrays in one, differing at the bound", array(long(2046), long(2046, number(1, 0))), array(long(2046), long(2046, text("a"))), -1, true)
	wantCompare(t, "two arrays in one, differing past the bound", array(long(2046), long(2047, number(1, 0))), array(long(2046), long(2047, text("a"))), 0, false)
	wantCompare(t, "what holds itself", ring(), ring(), 0, false)
	wantCompare(t, "what holds itself, and what doesn't", ring(), nest(text("a"), 4095), 1, true)
	wantCompare(t, "what holds itself, and what doesn't for long", ring(), nest(text("a"), 4096), 0, false)
	wantCompare(t, "very deep ones", nest(text("a"), 200000), nest(text("b"), 200000), 0, false)
}

// Strings that are keys aren't looked at, and strings are one pair each, however long.
func TestCompareDoesNotCountKeys(t *testing.T) {
	var keys []string
	for i := range api.MaxWalk - 1 {
		keys = append(keys, strconv.Itoa(100000+i))
	}
	full := object(keys, make([]api.Value, len(keys))...)
	wantCompare(t, "an object with as many items as may be", full, full, 0, true)
	wantCompare(t, "objects with as many items as may be", full, object(keys, append(make([]api.Value, len(keys)-1), text("a"))...), -1, true)
	more := append(slices.Clone(keys), "2", "3", "4")
	wantCompare(t, "one with more keys", full, object(more, make([]api.Value, len(more))...), -1, true)
	wantCompare(t, "one with more keys, twice", object(more, make([]api.Value, len(more))...), object(more, make([]api.Value, len(more))...), 0, false)
	other := append(slices.Clone(more[:len(more)-1]), "5")
	wantCompare(t, "keys that differ past the bound", object(more, make([]api.Value, len(more))...), object(other, make([]api.Value, len(more))...), -1, true)
	wantCompare(t, "keys without items", object(more), object(more), 0, true)
	s := strings.Repeat("a", 100000)
	wantCompare(t, "long strings", text(s+"b"), text(s+"a"), 1, true)
	wantCompare(t, "what is wrong, at length", bad(s), bad(s+"a"), -1, true)
}

// Promise 7.1: Compare of many values, against the model.
func TestCompareLikeModel(t *testing.T) {
	r := rand.New(rand.NewSource(71))
	told := map[int]int{}
	for range 30000 {
		a := some(r, 4)
		b := some(r, 4)
		if r.Intn(2) == 0 {
			b = altered(r, a)
		}
		if r.Intn(40) == 0 {
			n := api.MaxWalk - 8 + r.Intn(12)
			a, b = long(n, a), long(n, b)
		}
		c, ok, _ := rowsCompared(rowOf(a), rowOf(b))
		wantCompare(t, "some values", a, b, c, ok)
		if !ok {
			c = 2
		}
		told[c]++
		if t.Failed() {
			t.Fatalf("of %s\nand %s", brief(a), brief(b))
		}
	}
	for c := -1; c <= 2; c++ {
		if told[c] < 100 {
			t.Errorf("%d was told only %d times", c, told[c])
		}
	}
}

// some is a value of any kind, at times one that may not be.
func some(r *rand.Rand, deep int) api.Value {
	kind := []int{api.Null, api.False, api.True, api.Number, api.Number, api.String, api.Bad, api.Array, api.Array, api.Object, api.Object}[r.Intn(11)]
	if deep == 0 {
		kind = min(kind, api.String)
	}
	v := api.Value{Kind: kind}
	if r.Intn(20) == 0 {
		v.Kind = noKinds[r.Intn(len(noKinds))]
	}
	switch kind {
	case api.Number:
		v.Num = api.Num{Coef: r.Int63n(40) - 20, Scale: r.Intn(2)}
	case api.String, api.Bad:
		v.Str = word(r)
	case api.Array:
		for range r.Intn(4) {
			v.Items = append(v.Items, some(r, deep-1))
		}
	case api.Object:
		for range r.Intn(3) {
			v.Keys = append(v.Keys, word(r))
			v.Items = append(v.Items, some(r, deep-1))
		}
		if r.Intn(10) == 0 {
			v.Items = append(v.Items, some(r, deep-1))
		}
	}
	return v
}

func word(r *rand.Rand) string {
	return []string{"", "a", "aa", "ab", "b", "\u00e9", "\xff"}[r.Intn(7)]
}

// altered is a value of which one item, somewhere, is another one.
func altered(r *rand.Rand, v api.Value) api.Value {
	if len(v.Items) == 0 || r.Intn(4) == 0 {
		return some(r, 2)
	}
	v.Items = slices.Clone(v.Items)
	i := r.Intn(len(v.Items))
	v.Items[i] = altered(r, v.Items[i])
	return v
}

// Promise 7.2: Sort.

func wantSort(t *testing.T, title string, l, want []api.Value, answered bool) {
	t.Helper()
	was := slices.Clone(l)
	got, ok := order.Sort(l)
	wantList(t, "Sort of "+title, got, ok, want, answered)
	wantList(t, "what was sorted, "+title, l, true, was, true)
}

func wantUnique(t *testing.T, title string, l, want []api.Value, answered bool) {
	t.Helper()
	was := slices.Clone(l)
	got, ok := order.Unique(l)
	wantList(t, "Unique of "+title, got, ok, want, answered)
	wantList(t, "what was told once, "+title, l, true, was, true)
}

func TestSort(t *testing.T) {
	wantSort(t, "nothing", nil, nil, true)
	wantSort(t, "an empty list", []api.Value{}, nil, true)
	wantSort(t, "one", numbers(3), numbers(3), true)
	wantSort(t, "two", numbers(3, 1), numbers(1, 3), true)
	wantSort(t, "some", numbers(3, 1, 2, 3, -1, 10, 2), numbers(-1, 1, 2, 2, 3, 3, 10), true)
	l := rising()
	shuffled := slices.Clone(l)
	slices.Reverse(shuffled)
	wantSort(t, "all kinds, from the back on", shuffled, l, true)
	r := rand.New(rand.NewSource(72))
	for range 200 {
		r.Shuffle(len(shuffled), func(i, j int) { shuffled[i], shuffled[j] = shuffled[j], shuffled[i] })
		wantSort(t, "all kinds", shuffled, l, true)
		wantUnique(t, "all kinds, twice", append(slices.Clone(shuffled), shuffled...), l, true)
	}
}

// marked is a number that bears, where Compare does not look, the place at which it stood.
func marked(size int64, at int) api.Value {
	v := number(size, 0)
	v.Str = strconv.Itoa(at)
	return v
}

// Those that are the same stay as they stood, in lists of all lengths.
func TestSortStays(t *testing.T) {
	r := rand.New(rand.NewSource(720))
	for n := range 300 {
		sizes := int64(1 + r.Intn(1+n/2))
		var l []api.Value
		groups := make([][]api.Value, sizes)
		for at := range n {
			size := r.Int63n(sizes)
			l = append(l, marked(size, at))
			groups[size] = append(groups[size], marked(size, at))
		}
		var firsts []api.Value
		for _, g := range groups {
			firsts = append(firsts, g[:min(1, len(g))]...)
		}
		wantSort(t, "values of some sizes", l, slices.Concat(groups...), true)
		wantUnique(t, "values of some sizes", l, firsts, true)
	}
}

func TestSortWithoutAnswer(t *testing.T) {
	far, past := long(api.MaxWalk-1), long(api.MaxWalk)
	wantSort(t, "one that is too long", []api.Value{past}, []api.Value{past}, true)
	wantSort(t, "one that holds itself", []api.Value{long(5, past), number(1, 0), {}}, []api.Value{{}, number(1, 0), long(5, past)}, true)
	wantSort(t, "two at the bound", []api.Value{far, far}, []api.Value{far, far}, true)
	wantSort(t, "two that are too long", []api.Value{past, past}, nil, false)
	wantSort(t, "two that hold themselves", []api.Value{ring(), {}, ring()}, nil, false)
	wantUnique(t, "one that is too long", []api.Value{past}, []api.Value{past}, true)
	wantUnique(t, "two at the bound", []api.Value{far, far}, []api.Value{far}, true)
	wantUnique(t, "two that are too long", []api.Value{past, past}, nil, false)
	a, b := long(api.MaxWalk, number(1, 0)), long(api.MaxWalk, number(2, 0))
	wantSort(t, "two that differ too far on", []api.Value{a, {}, text("a"), b, array()}, nil, false)
	wantSort(t, "two that end too far on", []api.Value{past, {}, long(api.MaxWalk, number(1, 0))}, nil, false)
	wantUnique(t, "two that differ too far on", []api.Value{a, {}, text("a"), b, array()}, nil, false)
}

// Two values without an answer are found wherever they stand, and one alone is never held against itself.
func TestSortWithoutAnswerAnywhere(t *testing.T) {
	r := rand.New(rand.NewSource(721))
	for n := 1; n < 120; n++ {
		l := make([]api.Value, n)
		for i := range l {
			l[i] = array(number(r.Int63n(40), 0))
		}
		huge := array(number(r.Int63n(40), 0), long(5000))
		at, other := r.Intn(n), r.Intn(n)
		l[at] = huge
		if got, ok := order.Sort(l); !ok || len(got) != n {
			t.Errorf("Sort of %d values, one too long at %d, is none", n, at)
		}
		l[other] = huge
		if got, ok := order.Sort(l); ok != (at == other) || !ok && got != nil {
			t.Errorf("Sort of %d values, two too long at %d and %d, is %v", n, at, other, ok)
		}
		if got, ok := order.Unique(l); ok != (at == other) || !ok && got != nil {
			t.Errorf("Unique of %d values, two too long at %d and %d, is %v", n, at, other, ok)
		}
	}
}

// nearBound is a list of values of which some two may have no answer.
func nearBound(r *rand.Rand) []api.Value {
	sizes := 1 + r.Int63n(8)
	var l []api.Value
	for at := range 1 + r.Intn(26) {
		v := array(number(r.Int63n(sizes), 0), long(r.Intn(3)), long(4080+r.Intn(20), number(r.Int63n(3), 0)))
		if r.Intn(3) == 0 {
			v = array(number(r.Int63n(sizes), 0), number(r.Int63n(sizes), 0))
		}
		v.Str = strconv.Itoa(at)
		l = append(l, v)
	}
	return l
}

// Promise 7.2: Sort and Unique of lists near the bound, against the model, which asks all pairs.
func TestSortLikeModel(t *testing.T) {
	r := rand.New(rand.NewSource(722))
	told := map[bool]int{}
	for range 200 {
		l := nearBound(r)
		places, ok := sortedByModel(l)
		var want []string
		for _, i := range places {
			want = append(want, l[i].Str)
		}
		sorted, answered := order.Sort(l)
		var got []string
		for _, v := range sorted {
			got = append(got, v.Str)
		}
		if answered != ok || !slices.Equal(got, want) {
			t.Fatalf("Sort is %q, %v, not %q, %v", got, answered, want, ok)
		}
		told[ok]++
	}
	if told[true] < 30 || told[false] < 30 {
		t.Errorf("there was an answer %d times, and none %d times", told[true], told[false])
	}
}

func TestUnique(t *testing.T) {
	wantUnique(t, "nothing", nil, nil, true)
	wantUnique(t, "one", numbers(3), numbers(3), true)
	wantUnique(t, "some", numbers(3, 1, 2, 3, -1, 10, 2, 3), numbers(-1, 1, 2, 3, 10), true)
	wantUnique(t, "one many times", numbers(7, 7, 7, 7), numbers(7), true)
	zeros := []api.Value{number(10, 1), number(0, 0), number(5, -3), text(""), {}}
	wantUnique(t, "numbers that count as 0", zeros, []api.Value{{}, number(10, 1), text("")}, true)
	wantUnique(t, "kinds that aren't named", []api.Value{{Kind: 9}, {Kind: -1}, {Kind: api.Hole}}, []api.Value{{Kind: 9}}, true)
	wantUnique(t, "an array and an object", []api.Value{object(nil), array(), object(nil), array()}, []api.Value{array(), object(nil)}, true)
}

// Promise 7.2: Find.

func TestFind(t *testing.T) {
	l := rising()
	for i, v := range l {
		wantFind(t, "one of all kinds", l, v, i, true)
		wantFind(t, "one of all kinds, twice", append(slices.Clone(l), l...), v, i, true)
		wantFind(t, "one that isn't there", append(slices.Clone(l[:i]), l[i+1:]...), v, -1, true)
	}
	wantFind(t, "what isn't in nothing", nil, number(1, 0), -1, true)
	wantFind(t, "what isn't in an empty list", []api.Value{}, api.Value{}, -1, true)
	wantFind(t, "the first of three", numbers(4, 5, 5, 4, 5), number(5, 0), 1, true)
	wantFind(t, "the last one", numbers(4, 3, 2, 1), number(1, 0), 3, true)
	wantFind(t, "0, as a number that may not be", numbers(1, 0), number(10, 1), 1, true)
	wantFind(t, "a number that may not be, as 0", []api.Value{number(1, 0), number(1, -1)}, number(0, 0), 1, true)
	wantFind(t, "a kind that isn't named", []api.Value{{}, {Kind: 9}}, api.Value{Kind: -5}, 1, true)
}

func TestFindWithoutAnswer(t *testing.T) {
	far, past := long(api.MaxWalk-1), long(api.MaxWalk)
	one := number(1, 0)
	wantFind(t, "one at the bound", []api.Value{one, far}, far, 1, true)
	wantFind(t, "one past the bound", []api.Value{one, past}, past, 0, false)
	wantFind(t, "one past the bound, at the front", []api.Value{past, one}, past, 0, false)
	wantFind(t, "one that isn't there, past the bound", []api.Value{one, long(api.MaxWalk, one), one}, past, 0, false)
	wantFind(t, "one ahead of one without an answer", []api.Value{array(), far, past, past}, far, 1, true)
	wantFind(t, "one behind one without an answer", []api.Value{long(api.MaxWalk-1, one), long(api.MaxWalk-1, one, one)}, long(api.MaxWalk-1, one, one), 0, false)
	wantFind(t, "a short one among long ones", []api.Value{past, past, one}, one, 2, true)
	wantFind(t, "a long one among short ones", []api.Value{one, array(one), text("a")}, past, -1, true)
	wantFind(t, "what holds itself", []api.Value{one, ring(), one}, ring(), 0, false)
	// Each one is looked at anew.
	many := slices.Repeat([]api.Value{long(api.MaxWalk-2, text("b"))}, 20)
	wantFind(t, "one behind many long ones", append(many, long(api.MaxWalk-2, text("a"))), long(api.MaxWalk-2, text("a")), 20, true)
}

// Promise 7.3.

func TestItIsAnOrder(t *testing.T) {
	r := rand.New(rand.NewSource(73))
	for range 20000 {
		l := []api.Value{some(r, 3)}
		l = append(l, altered(r, l[0]), altered(r, l[0]))
		if r.Intn(20) == 0 {
			n := api.MaxWalk - 6 + r.Intn(8)
			for i := range l {
				l[i] = long(n, l[i])
			}
		}
		wantOrder(t, l[0], l[1], l[2])
	}
	l := rising()
	for _, a := range l {
		for _, b := range l {
			for _, c := range l {
				wantOrder(t, a, b, c)
			}
		}
	}
}

// wantOrder asks whether three values go one way round, and through thirds; an answer goes through thirds, too.
func wantOrder(t *testing.T, a, b, c api.Value) {
	t.Helper()
	ab, ok1 := order.Compare(a, b)
	bc, ok2 := order.Compare(b, c)
	ac, ok3 := order.Compare(a, c)
	ba, ok4 := order.Compare(b, a)
	if ba != -ab || ok4 != ok1 {
		t.Errorf("Compare is %d, %v, and the other way round %d, %v", ab, ok1, ba, ok4)
	}
	if !ok1 || !ok2 || ab > 0 || bc > 0 {
		return
	}
	if want := min(ab, bc); !ok3 || ac != want {
		t.Errorf("Compare through a third is %d, %v, not %d: of %s\nand %s\nand %s", ac, ok3, want, brief(a), brief(b), brief(c))
	}
}

func TestSortedIsInOrder(t *testing.T) {
	r := rand.New(rand.NewSource(730))
	for n := range 200 {
		var l []api.Value
		for range n {
			l = append(l, some(r, 3))
		}
		sorted, ok := order.Sort(l)
		once, ok2 := order.Unique(l)
		if !ok || !ok2 || len(sorted) != n {
			t.Fatalf("%d values are sorted as %d, %v, %v", n, len(sorted), ok, ok2)
		}
		for i := range max(0, n-1) {
			if c, _ := order.Compare(sorted[i], sorted[i+1]); c > 0 {
				t.Errorf("Sort of %d values isn't in order at %d", n, i)
			}
		}
		for i := range max(0, len(once)-1) {
			if c, _ := order.Compare(once[i], once[i+1]); c >= 0 {
				t.Errorf("Unique of %d values doesn't rise at %d", n, i)
			}
		}
		again, _ := order.Sort(sorted)
		wantList(t, "Sort of what is sorted", again, true, sorted, true)
		for _, v := range l {
			i, ok := order.Find(sorted, v)
			if j, ok2 := order.Find(once, v); !ok || !ok2 || i < 0 || j < 0 || i < j {
				t.Errorf("one of %d values is at %d when sorted, and at %d when each is there once", n, i, j)
			}
		}
	}
}

// The chapter's example: three pairs are looked at.
func TestExample(t *testing.T) {
	a, b := array(numbers(1, 2)...), array(numbers(1, 3)...)
	wantCompare(t, "[1,2] and [1,3]", a, b, -1, true)
	if _, _, looks := rowsCompared(rowOf(a), rowOf(b)); looks != 3 {
		t.Errorf("the model looks at %d pairs", looks)
	}
	for n := api.MaxWalk - 6; n < api.MaxWalk+2; n++ {
		fits := n+4 <= api.MaxWalk
		wantCompare(t, "[1,2] and [1,3] behind others", long(n, a), long(n, b), sign(fits, -1), fits)
	}
}
