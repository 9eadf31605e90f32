package jval_test

import (
	"maps"
	"math"
	"math/rand"
	"slices"
	"strconv"
	"strings"
	"testing"

	"keyhole/api"
	"keyhole/jval"
)

// noTexts are bytes that are no texts.
var noTexts = []string{"\xff", "\x80", "a\xc3", "\xc0\x80", "\xed\xa0\x80", "\xf4\x90\x80\x80", "abc\xe2\x82"}

// noNumbers are numbers that may not be.
var noNumbers = []api.Num{
	{Coef: 0, Scale: 1}, {Coef: 10, Scale: 1}, {Coef: 1, Scale: -1}, {Coef: 1, Scale: 10},
	{Coef: api.MaxCoef}, {Coef: -api.MaxCoef}, {Coef: math.MaxInt64}, {Coef: math.MinInt64, Scale: 9},
}

// noKinds are numbers that no value's kind has; a hole is one of them.
var noKinds = []int{api.Hole, -1, 9, 10, 256, math.MaxInt, math.MinInt}

func number(coef int64, scale int) api.Value {
	return api.Value{Kind: api.Number, Num: api.Num{Coef: coef, Scale: scale}}
}

func object(keys []string, items ...api.Value) api.Value {
	return api.Value{Kind: api.Object, Keys: keys, Items: items}
}

func array(items ...api.Value) api.Value { return api.Value{Kind: api.Array, Items: items} }

func text(s string) api.Value { return api.Value{Kind: api.String, Str: s} }

func bad(s string) api.Value { return api.Value{Kind: api.Bad, Str: s} }

// right are values that may be.
func right() []api.Value {
	return []api.Value{
		{}, {Kind: api.False}, {Kind: api.True},
		number(0, 0), number(7, 0), number(-10, 0), number(125, 3), number(-1, 9), number(api.MaxCoef-1, 9), number(1-api.MaxCoef, 0),
		text(""), text("a"), text("\x00\"\\"), text("h\u00e9\u20ac\U0001d11e"), text(strings.Repeat("long", 5000)),
		bad(""), bad("kind"), bad("h\u00e9"),
		array(), {Kind: api.Array, Items: []api.Value{}}, {Kind: api.Array, Keys: []string{}}, {Items: []api.Value{}, Keys: []string{}},
		array(api.Value{}, number(1, 0), text("a"), array(), object(nil), array(array(text("b")))),
		object(nil), object([]string{}), object([]string{""}, number(1, 0)), object([]string{"a"}, api.Value{}),
		object([]string{"", "#", "=", "A", "a", "a\x00", "aa", "b", "\u00e9", "\u20ac", "\uffff", "\U00010000"}, slices.Repeat([]api.Value{number(5, 1)}, 12)...),
		object([]string{"a", "b"}, object([]string{"a"}, array(text("x"))), array(object(nil))),
	}
}

// nest is a value that so many arrays, or objects, are around.
func nest(v api.Value, n int) api.Value {
	for i := range n {
		if i%3 == 2 {
			v = object([]string{"a"}, v)
		} else {
			v = array(v)
		}
	}
	return v
}

// double is a value that is twice in an array, which is twice in one, and so on, so many times; all share what is in them.
func double(v api.Value, n int) api.Value {
	for range n {
		v = array(v, v)
	}
	return v
}

// ring is a value that is so many deep in itself.
func ring(n int) api.Value {
	items := make([]api.Value, n)
	for i := range n {
		next := (i + 1) % n
		items[i] = array(items[next : next+1 : next+1]...)
	}
	return items[0]
}

// clone is a value that shares nothing with another one that is the same.
func clone(v api.Value) api.Value {
	v.Keys = slices.Clone(v.Keys)
	v.Items = slices.Clone(v.Items)
	for i := range v.Items {
		v.Items[i] = clone(v.Items[i])
	}
	return v
}

// some is a value that may be, of at most so many values within one another.
func some(r *rand.Rand, deep int) api.Value {
	kind := r.Intn(7)
	if deep == 0 {
		kind = r.Intn(5)
	}
	v := api.Value{Kind: kind}
	switch kind {
	case api.Number:
		v.Num = api.Num{Coef: r.Int63n(1000)*10 + 1 + r.Int63n(9), Scale: r.Intn(10)}
	case api.String:
		v.Str = word(r)
	case api.Array:
		for range r.Intn(4) {
			v.Items = append(v.Items, some(r, deep-1))
		}
	case api.Object:
		keys := map[string]struct{}{}
		for range r.Intn(4) {
			keys[word(r)] = struct{}{}
		}
		v.Keys = slices.Sorted(maps.Keys(keys))
		for range v.Keys {
			v.Items = append(v.Items, some(r, deep-1))
		}
	}
	return v
}

func word(r *rand.Rand) string {
	return strings.Repeat(string(rune('a'+r.Intn(3))), r.Intn(3)) + string([]rune{'x', '\u00e9', '\u20ac', '\U0001d11e'}[r.Intn(4)])
}

// places are all values that a value has, itself ahead; a change of one is a change of it.
func places(v *api.Value) []*api.Value {
	out := []*api.Value{v}
	for i := range v.Items {
		out = append(out, places(&v.Items[i])...)
	}
	return out
}

// Promise 5.1: Is.

func wantIs(t *testing.T, title string, v api.Value, want bool) {
	t.Helper()
	if jval.Is(v) != want {
		t.Errorf("Is of %s is %v", title, !want)
	}
}

// wantWrong asks of a value that may not be, and of it at places in others.
func wantWrong(t *testing.T, title string, v api.Value) {
	t.Helper()
	wantIs(t, title, v, false)
	wantIs(t, title+", in an array", array(text("a"), v), false)
	wantIs(t, title+", in an object", object([]string{"a", "b"}, v, text("a")), false)
	wantIs(t, title+", far in", nest(v, api.MaxDepth), false)
}

func TestIs(t *testing.T) {
	for i, v := range right() {
		wantIs(t, "right one "+strconv.Itoa(i), v, true)
		isBad := v.Kind == api.Bad
		wantIs(t, "array of right one "+strconv.Itoa(i), array(v), !isBad)
		wantIs(t, "array with right one "+strconv.Itoa(i), array(number(1, 0), v, text("a")), !isBad)
		wantIs(t, "object of right one "+strconv.Itoa(i), object([]string{"k"}, v), !isBad)
		wantIs(t, "object with right one "+strconv.Itoa(i), object([]string{"k", "l"}, number(1, 0), v), !isBad)
	}
}

func TestIsOfNoKind(t *testing.T) {
	for _, kind := range noKinds {
		wantWrong(t, "kind "+strconv.Itoa(kind), api.Value{Kind: kind})
	}
}

func TestIsOfWhatAKindHasNot(t *testing.T) {
	for kind := api.Null; kind <= api.Bad; kind++ {
		title := "kind " + strconv.Itoa(kind)
		if kind != api.Number {
			wantWrong(t, title+" with a number", api.Value{Kind: kind, Num: api.Num{Coef: 1}})
			wantWrong(t, title+" with a scale", api.Value{Kind: kind, Num: api.Num{Scale: 1}})
		}
		if kind != api.String && kind != api.Bad {
			wantWrong(t, title+" with a text", api.Value{Kind: kind, Str: "a"})
		}
		if kind != api.Array {
			wantWrong(t, title+" with an item", api.Value{Kind: kind, Items: []api.Value{{}}})
		}
		wantWrong(t, title+" with a key", api.Value{Kind: kind, Keys: []string{""}})
		if kind != api.Object {
			wantWrong(t, title+" with a key and an item", api.Value{Kind: kind, Keys: []string{"a"}, Items: []api.Value{{}}})
		}
	}
	wantWrong(t, "a number with a text", api.Value{Kind: api.Number, Num: api.Num{Coef: 1}, Str: "1"})
	wantWrong(t, "a string with a number", api.Value{Kind: api.String, Num: api.Num{Coef: 1}, Str: "1"})
	wantWrong(t, "an array with keys", api.Value{Kind: api.Array, Items: []api.Value{{}, {}}, Keys: []string{"a", "b"}})
	wantWrong(t, "an object with a number", api.Value{Kind: api.Object, Num: api.Num{Coef: 1}, Items: []api.Value{{}}, Keys: []string{"a"}})
	wantWrong(t, "an object with a text", api.Value{Kind: api.Object, Str: "o", Items: []api.Value{{}}, Keys: []string{"a"}})
}

func TestIsOfNumbersAndTexts(t *testing.T) {
	for _, n := range noNumbers {
		wantWrong(t, "a wrong number", api.Value{Kind: api.Number, Num: n})
	}
	for _, s := range noTexts {
		wantWrong(t, "no text", text(s))
		wantWrong(t, "bad of no text", bad(s))
		wantWrong(t, "a key of no text", object([]string{s}, api.Value{}))
		wantWrong(t, "a last key of no text", object([]string{"a", "b" + s}, api.Value{}, api.Value{}))
	}
}

func TestIsOfKeys(t *testing.T) {
	for _, keys := range [][]string{
		{"a", "a"}, {"", ""}, {"b", "a"}, {"a", ""}, {"a", "A"}, {"aa", "a"}, {"10", "1"}, {"\U00010000", "\uffff"}, {"\u00e9", "z"},
		{"a", "b", "b"}, {"a", "a", "b"}, {"a", "c", "b"}, {"b", "c", "a"}, {"a", "b", "a"}, {"a", "b", "c", "e", "d"},
	} {
		items := make([]api.Value, len(keys))
		wantWrong(t, "keys "+strings.Join(keys, " "), object(keys, items...))
	}
	wantWrong(t, "an object with a key too few", object([]string{"a"}, api.Value{}, api.Value{}))
	wantWrong(t, "an object with a key too many", object([]string{"a", "b"}, api.Value{}))
	wantWrong(t, "an object without keys", object(nil, api.Value{}))
	wantWrong(t, "an object without items", object([]string{"a"}))
}

func TestIsOfBadItems(t *testing.T) {
	wantIs(t, "a bad one", bad("kind"), true)
	for n := 1; n <= api.MaxDepth; n++ {
		wantIs(t, "one around a bad one", nest(bad("kind"), n), false)
		wantIs(t, "one around a bad one and others", nest(array(api.Value{}, array(), bad("kind"), text("a")), n-1), false)
	}
}

func TestIsOfDeepOnes(t *testing.T) {
	for n := range 3 * api.MaxDepth {
		may := n <= api.MaxDepth
		wantIs(t, "a number so deep", nest(number(1, 0), n), may)
		wantIs(t, "an empty array so deep", nest(array(), n), may)
		wantIs(t, "an empty object so deep", nest(object(nil), n), may)
		if n > 0 {
			wantIs(t, "a deep one behind others", array(api.Value{}, array(array()), nest(text("a"), n-1)), may)
			wantIs(t, "a deep one ahead of others", object([]string{"a", "b"}, nest(text("a"), n-1), array()), may)
		}
	}
	wantIs(t, "a very deep one", nest(api.Value{}, 200000), false)
}

func TestIsOfSharedItems(t *testing.T) {
	wantIs(t, "a shared one", double(number(1, 0), api.MaxDepth), true)
	wantIs(t, "a shared one, deeper", double(number(1, 0), api.MaxDepth+1), false)
	wantIs(t, "a shared one, very deep", double(number(1, 0), 1000), false)
	wantIs(t, "shared ones with a bad one", double(bad("kind"), api.MaxDepth), false)
	x := nest(number(1, 0), 20)
	wantIs(t, "twice, the second one deeper", array(x, nest(x, 11)), true)
	wantIs(t, "twice, the second one too deep", array(x, nest(x, 12)), false)
	wantIs(t, "twice, the first one deeper", array(nest(x, 11), x), true)
	wantIs(t, "twice, the first one too deep", array(nest(x, 12), x), false)
	y := array(array(text("a")), array())
	wantIs(t, "twice, of a list whose last item is less deep", array(y, nest(y, 29)), true)
	wantIs(t, "twice, of a list whose last item is less deep, too deep", array(y, nest(y, 30)), false)
	items := []api.Value{text("a"), text("b")}
	wantIs(t, "items of an array and of an object with wrong keys", array(array(items...), object([]string{"b", "a"}, items...)), false)
	l := []api.Value{text("a"), bad("b")}
	wantIs(t, "a part of a list that has a bad one", array(array(l[:1]...), array(l[:1]...)), true)
	wantIs(t, "a part of a list, and all of it, with a bad one", array(array(l[:1]...), array(l...)), false)
}

func TestIsOfWhatHoldsItself(t *testing.T) {
	for n := 1; n < 40; n++ {
		wantIs(t, "what holds itself", ring(n), false)
		wantIs(t, "what holds what holds itself", array(array(), ring(n)), false)
	}
}

func TestIsOfSomeWithAFault(t *testing.T) {
	r := rand.New(rand.NewSource(5))
	for range 3000 {
		v := some(r, 4)
		wantIs(t, "some value", v, true)
		all := places(&v)
		at := all[r.Intn(len(all))]
		switch r.Intn(4) {
		case 0:
			at.Kind = noKinds[r.Intn(len(noKinds))]
		case 1:
			at.Num = noNumbers[r.Intn(len(noNumbers))]
		case 2:
			at.Str = noTexts[r.Intn(len(noTexts))]
		case 3:
			at.Keys = append(slices.Clone(at.Keys), "")
		}
		wantIs(t, "some value with a fault", v, false)
	}
}

// Promise 5.1: Same.

func wantSame(t *testing.T, title string, a, b api.Value, want bool) {
	t.Helper()
	if jval.Same(a, b) != want || jval.Same(b, a) != want {
		t.Errorf("Same of %s isn't %v both ways round", title, want)
	}
}

// strange are values that may not be, no two of them the same.
func strange() []api.Value {
	out := []api.Value{
		text("\xff"), text("\xfe"), bad("\xff"), number(10, 1), number(100, 2), number(0, 1), number(0, 2), number(api.MaxCoef, 0), number(math.MinInt64, math.MinInt),
		{Str: "a"}, {Num: api.Num{Coef: 1}}, {Num: api.Num{Scale: 1}}, {Items: []api.Value{{}}}, {Items: []api.Value{{}, {}}}, {Keys: []string{""}}, {Keys: []string{"a"}}, {Keys: []string{"", ""}},
		{Kind: api.String, Str: "a", Items: []api.Value{{}}}, {Kind: api.String, Str: "a", Keys: []string{"a"}}, {Kind: api.Number, Num: api.Num{Coef: 1}, Str: "a"},
		array(bad("a")), array(bad("b")), object([]string{"b", "a"}, text("2"), text("1")), object([]string{"a", "a"}, text("1"), text("2")), object([]string{"a"}), object(nil, text("1")),
		object([]string{"a"}, text("1"), text("2")), object([]string{"a", "b"}, text("1")), {Kind: api.Array, Keys: []string{"a"}, Items: []api.Value{text("1")}},
	}
	for _, kind := range noKinds {
		out = append(out, api.Value{Kind: kind}, api.Value{Kind: kind, Str: "a"})
	}
	return out
}

// unlike are values of which no two are the same, some of which may be.
func unlike() []api.Value {
	return append(strange(),
		api.Value{}, api.Value{Kind: api.False}, api.Value{Kind: api.True}, number(0, 0), number(1, 0), number(-1, 0), number(1, 1), text(""), text("a"), text("b"), text("ab"), text("a\x00"), bad(""), bad("a"),
		array(), array(api.Value{}), array(api.Value{}, api.Value{}), array(text("a")), array(text("a"), text("b")), array(text("b"), text("a")), array(array()), array(array(), array()), array(array(array())), array(object(nil)),
		object(nil), object([]string{""}, api.Value{}), object([]string{"a"}, api.Value{}), object([]string{"a"}, text("1")), object([]string{"a", "b"}, text("1"), text("2")), object([]string{"a", "b"}, text("2"), text("1")), object([]string{"a", "c"}, text("1"), text("2")),
		nest(number(1, 0), 32), nest(number(2, 0), 32), nest(number(1, 0), 33), nest(number(1, 0), 34))
}

func TestSame(t *testing.T) {
	for i, v := range unlike() {
		for j, w := range unlike() {
			title := strconv.Itoa(i) + " and " + strconv.Itoa(j)
			wantSame(t, title, v, w, i == j)
			wantSame(t, title+" in an array", array(text("x"), v), array(text("x"), w), i == j)
			wantSame(t, title+" ahead in an array", array(v, text("x")), array(w, text("x")), i == j)
			wantSame(t, title+" far in an object", object([]string{"k"}, nest(v, 40)), object([]string{"k"}, nest(w, 40)), i == j)
		}
	}
}

func TestSameOfNilAndEmpty(t *testing.T) {
	for kind := -1; kind < 10; kind++ {
		none, empty := api.Value{Kind: kind}, api.Value{Kind: kind, Items: []api.Value{}, Keys: []string{}}
		wantSame(t, "nil and empty", none, empty, true)
		wantSame(t, "nil and empty, in", array(none), array(empty), true)
		wantSame(t, "nil and room", none, api.Value{Kind: kind, Items: make([]api.Value, 0, 3), Keys: make([]string, 0, 3)}, true)
	}
}

func TestSameOfSomeWithAChange(t *testing.T) {
	r := rand.New(rand.NewSource(51))
	for range 3000 {
		v := some(r, 4)
		w := clone(v)
		wantSame(t, "some value and another one of it", v, w, true)
		wantSame(t, "some value and itself", v, v, true)
		all := places(&w)
		at := all[r.Intn(len(all))]
		switch r.Intn(6) {
		case 0:
			at.Kind++
		case 1:
			at.Num.Coef++
		case 2:
			at.Num.Scale--
		case 3:
			at.Str += "z"
		case 4:
			at.Keys = append(slices.Clone(at.Keys), "z")
		case 5:
			at.Items = append(slices.Clone(at.Items), api.Value{})
		}
		wantSame(t, "some value and another one", v, w, false)
	}
}

func TestSameOfSharedAndDeepOnes(t *testing.T) {
	one, two := double(text("a"), 60), double(text("b"), 60)
	wantSame(t, "a shared one and itself", one, one, true)
	wantSame(t, "a shared one and another one of it", one, double(text("a"), 60), true)
	wantSame(t, "two shared ones", one, two, false)
	wantSame(t, "two shared ones, one deeper", one, double(text("a"), 61), false)
	wantSame(t, "a shared one and one that isn't", double(text("a"), 10), clone(double(text("a"), 10)), true)
	deep := nest(text("a"), 200000)
	wantSame(t, "a deep one and another one of it", deep, nest(text("a"), 200000), true)
	wantSame(t, "a deep one and itself", array(deep), array(deep), true)
	wantSame(t, "two deep ones", deep, nest(text("b"), 200000), false)
	items := []api.Value{text("a"), text("b"), text("a"), text("c")}
	wantSame(t, "parts of one list that begin alike", array(items[:1]...), array(items[:2]...), false)
	wantSame(t, "parts of one list", array(items[0:1]...), array(items[2:3]...), true)
	wantSame(t, "other parts of one list", array(items[0:2]...), array(items[2:4]...), false)
}

func TestSameOfWhatHoldsItself(t *testing.T) {
	wantSame(t, "what holds itself, and it", ring(1), ring(1), true)
	wantSame(t, "what holds itself at once, and later", ring(2), ring(3), true)
	wantSame(t, "what holds itself, and one around it", ring(2), array(array(array(ring(3)))), true)
	wantSame(t, "what holds itself, and an end", ring(2), nest(array(), 2), false)
	wantSame(t, "what holds itself, and two of it", ring(1), array(ring(1), ring(1)), false)
	wantSame(t, "what holds itself, and something else", array(ring(1), text("a")), array(ring(1), text("b")), false)
}

// Promise 5.1: Name.

func TestName(t *testing.T) {
	for kind, want := range []string{"null", "boolean", "boolean", "number", "string", "array", "object", "error"} {
		if got := jval.Name(kind); got != want {
			t.Errorf("Name(%d) is %q, not %q", kind, got, want)
		}
	}
	for _, kind := range noKinds {
		if got := jval.Name(kind); got != "" {
			t.Errorf("Name(%d) is %q", kind, got)
		}
	}
}

// Promise 5.2: Text, Int, Truth, Wrong, List.

func wantValue(t *testing.T, title string, got, want api.Value) {
	t.Helper()
	if !jval.Same(got, want) {
		t.Errorf("%s is %v, not %v", title, got, want)
	}
}

func TestTextAndWrong(t *testing.T) {
	for _, s := range append([]string{"", "a", "kind", "number", "h\u00e9\x00"}, noTexts...) {
		wantValue(t, "Text", jval.Text(s), api.Value{Kind: 4, Str: s})
		wantValue(t, "Wrong", jval.Wrong(s), api.Value{Kind: 7, Str: s})
	}
}

func TestTruth(t *testing.T) {
	wantValue(t, "Truth(true)", jval.Truth(true), api.Value{Kind: 2})
	wantValue(t, "Truth(false)", jval.Truth(false), api.Value{Kind: 1})
}

func TestInt(t *testing.T) {
	for _, n := range []int{0, 1, -1, 7, 10, -10, 1000, 1 << 31, -1 << 31, 1 << 32, api.MaxCoef / 10, api.MaxCoef - 2, api.MaxCoef - 1, 1 - api.MaxCoef, -999999999999990} {
		wantValue(t, "Int("+strconv.Itoa(n)+")", jval.Int(n), api.Value{Kind: 3, Num: api.Num{Coef: int64(n)}})
	}
	for _, n := range []int{api.MaxCoef, -api.MaxCoef, api.MaxCoef + 1, -api.MaxCoef - 1, 10 * api.MaxCoef, math.MaxInt, math.MinInt} {
		wantValue(t, "Int("+strconv.Itoa(n)+")", jval.Int(n), api.Value{Kind: 7, Str: "number"})
	}
}

func TestList(t *testing.T) {
	wantValue(t, "List()", jval.List(), api.Value{Kind: 5})
	wantValue(t, "List of an empty list", jval.List([]api.Value{}...), api.Value{Kind: 5})
	wantValue(t, "List of one", jval.List(text("a")), api.Value{Kind: 5, Items: []api.Value{text("a")}})
	wantValue(t, "List of lists", jval.List(jval.List(), jval.List(text("b"), text("a"))), array(array(), array(text("b"), text("a"))))
	all := unlike()
	wantValue(t, "List of any values", jval.List(all...), api.Value{Kind: 5, Items: unlike()})
	wantValue(t, "List of any values, as they were", array(all...), array(unlike()...))
}

// Promise 5.2: Put and Get.

// noObjects are values that are no objects.
func noObjects() []api.Value {
	out := []api.Value{
		{}, {Kind: api.False}, {Kind: api.True}, number(1, 0), text("a"), text(""), array(), array(text("a")), bad("a"), bad(""),
		object([]string{"a"}), object(nil, text("1")), object([]string{"a"}, text("1"), text("2")), object([]string{"a", "b"}, text("1")), object([]string{}, text("1")),
	}
	for _, kind := range append([]int{api.Null, api.False, api.True, api.Number, api.String, api.Array, api.Bad}, noKinds...) {
		out = append(out, api.Value{Kind: kind, Keys: []string{"a", "b"}, Items: []api.Value{text("1"), text("2")}})
	}
	return out
}

func wantPut(t *testing.T, o api.Value, key string, v api.Value, want api.Value) {
	t.Helper()
	before := clone(o)
	got := jval.Put(o, key, v)
	if !jval.Same(got, want) {
		t.Errorf("Put(%v, %q, %v) is %v, not %v", before, key, v, got, want)
	}
	if !jval.Same(o, before) {
		t.Errorf("Put(%v, %q, %v) left %v", before, key, v, o)
	}
}

func wantGet(t *testing.T, o api.Value, key string, want api.Value, found bool) {
	t.Helper()
	if got, ok := jval.Get(o, key); !jval.Same(got, want) || ok != found {
		t.Errorf("Get(%v, %q) is %v, %v, not %v, %v", o, key, got, ok, want, found)
	}
}

func TestPut(t *testing.T) {
	one, two, three, x := text("1"), text("2"), text("3"), text("x")
	wantPut(t, object(nil), "a", one, object([]string{"a"}, one))
	wantPut(t, object([]string{}), "", one, object([]string{""}, one))
	wantPut(t, jval.Put(object(nil), "b", jval.Int(1)), "a", jval.Int(2), object([]string{"a", "b"}, number(2, 0), number(1, 0)))
	o := object([]string{"b", "d", "f"}, one, two, three)
	wantPut(t, o, "a", x, object([]string{"a", "b", "d", "f"}, x, one, two, three))
	wantPut(t, o, "", x, object([]string{"", "b", "d", "f"}, x, one, two, three))
	wantPut(t, o, "b", x, object([]string{"b", "d", "f"}, x, two, three))
	wantPut(t, o, "ba", x, object([]string{"b", "ba", "d", "f"}, one, x, two, three))
	wantPut(t, o, "c", x, object([]string{"b", "c", "d", "f"}, one, x, two, three))
	wantPut(t, o, "d", x, object([]string{"b", "d", "f"}, one, x, three))
	wantPut(t, o, "e", x, object([]string{"b", "d", "e", "f"}, one, two, x, three))
	wantPut(t, o, "f", x, object([]string{"b", "d", "f"}, one, two, x))
	wantPut(t, o, "g", x, object([]string{"b", "d", "f", "g"}, one, two, three, x))
	wantPut(t, o, "D", x, object([]string{"D", "b", "d", "f"}, x, one, two, three))
	wantPut(t, o, "\xff", x, object([]string{"b", "d", "f", "\xff"}, one, two, three, x))
	wantPut(t, object([]string{"a\x00", "aA"}, one, two), "a", x, object([]string{"a", "a\x00", "aA"}, x, one, two))
	wantPut(t, object([]string{"\uffff"}, one), "\U00010000", x, object([]string{"\uffff", "\U00010000"}, one, x))
}

func TestPutOfAnyValue(t *testing.T) {
	for _, v := range append(unlike(), right()...) {
		wantPut(t, object([]string{"a", "c"}, text("1"), text("2")), "b", v, object([]string{"a", "b", "c"}, text("1"), v, text("2")))
		wantPut(t, object([]string{"a", "c"}, text("1"), text("2")), "c", v, object([]string{"a", "c"}, text("1"), v))
		wantPut(t, object([]string{"a", "c"}, v, v), "c", text("x"), object([]string{"a", "c"}, v, text("x")))
	}
	o := object([]string{"a"}, text("1"))
	wantPut(t, o, "a", o, object([]string{"a"}, o))
}

func TestPutIntoNoObject(t *testing.T) {
	for _, o := range noObjects() {
		for _, key := range []string{"", "a", "b", "c", "\xff"} {
			wantPut(t, o, key, text("x"), clone(o))
			wantGet(t, o, key, api.Value{}, false)
		}
	}
}

func TestPutLeavesTheRoomBehind(t *testing.T) {
	keys := []string{"a", "b", "c", "d"}
	items := []api.Value{text("1"), text("2"), text("3"), text("4")}
	o := object(keys[:2], items[:2]...)
	for _, key := range []string{"", "a", "aa", "b", "z"} {
		jval.Put(o, key, text("x"))
	}
	if !slices.Equal(keys, []string{"a", "b", "c", "d"}) || !jval.Same(array(items...), array(text("1"), text("2"), text("3"), text("4"))) {
		t.Errorf("the room is %v, %v", keys, items)
	}
	p := jval.Put(o, "c", text("x"))
	q, r := jval.Put(p, "d", text("y")), jval.Put(p, "e", text("z"))
	wantValue(t, "one that was put", q, object([]string{"a", "b", "c", "d"}, text("1"), text("2"), text("x"), text("y")))
	wantValue(t, "another one that was put", r, object([]string{"a", "b", "c", "e"}, text("1"), text("2"), text("x"), text("z")))
}

func TestGet(t *testing.T) {
	o := object([]string{"", "a", "c"}, text("1"), api.Value{}, text("3"))
	wantGet(t, o, "", text("1"), true)
	wantGet(t, o, "a", api.Value{}, true)
	wantGet(t, o, "c", text("3"), true)
	for _, key := range []string{"b", "A", "aa", "d", "\x00", "\xff", "c "} {
		wantGet(t, o, key, api.Value{}, false)
	}
	wantGet(t, object(nil), "", api.Value{}, false)
	wantGet(t, object(nil), "a", api.Value{}, false)
	for _, v := range unlike() {
		wantGet(t, object([]string{"k"}, v), "k", v, true)
	}
}

// Objects that may not be, but have as many keys as items, are objects for Put and Get.
func TestPutAndGetOfStrangeObjects(t *testing.T) {
	o := object([]string{"c", "\xff", "a", "b"}, text("1"), text("2"), text("3"), bad("4"))
	wantGet(t, o, "c", text("1"), true)
	wantGet(t, o, "\xff", text("2"), true)
	wantGet(t, o, "a", text("3"), true)
	wantGet(t, o, "b", bad("4"), true)
	wantGet(t, o, "d", api.Value{}, false)
	wantPut(t, o, "a", text("x"), object([]string{"c", "\xff", "a", "b"}, text("1"), text("2"), text("x"), bad("4")))
	wantPut(t, o, "b", text("x"), object([]string{"c", "\xff", "a", "b"}, text("1"), text("2"), text("3"), text("x")))
	p := object([]string{"a"}, text("1"))
	p.Num, p.Str = api.Num{Coef: 10, Scale: 1}, "s"
	want := object([]string{"a", "b"}, text("1"), text("x"))
	want.Num, want.Str = p.Num, p.Str
	wantPut(t, p, "b", text("x"), want)
	wantGet(t, p, "a", text("1"), true)
}

// Promise 5.2: Size.

func wantSize(t *testing.T, title string, v api.Value, most, want int) {
	t.Helper()
	if got := jval.Size(v, most); got != want {
		t.Errorf("Size of %s, at most %d, is %d, not %d", title, most, got, want)
	}
}

func TestSize(t *testing.T) {
	for _, x := range []struct {
		v    api.Value
		size int
	}{
		{api.Value{}, 1}, {text("abc"), 1}, {bad("a"), 1}, {number(7, 0), 1}, {array(), 1}, {object(nil), 1}, {api.Value{Kind: api.Hole}, 1}, {object([]string{"a", "b"}), 1},
		{array(text("a")), 2}, {array(text("a"), text("b")), 3}, {array(array(array())), 3}, {array(array(), array()), 3}, {array(array(), array(text("a")), array(text("a"), text("b"))), 7},
		{object([]string{"a"}, text("1")), 2}, {object([]string{"a", "b"}, array(text("1"), text("2")), object([]string{"c"}, text("3"))), 6},
		{array(bad("a"), api.Value{Kind: 42}), 3}, {object(nil, text("1"), text("2")), 3}, {object([]string{"a", "b", "c"}, text("1")), 2},
		{api.Value{Kind: api.String, Items: []api.Value{{}, {}}}, 3}, {api.Value{Kind: api.Hole, Items: []api.Value{{Items: []api.Value{{}}}}}, 3}, {api.Value{Items: []api.Value{{}}, Keys: []string{"a", "b"}}, 2},
		{nest(text("a"), 32), 33}, {nest(text("a"), 100), 101}, {double(text("a"), 5), 63}, {array(double(text("a"), 3), double(text("a"), 2), text("a")), 24},
	} {
		for most := -2; most < x.size+4; most++ {
			wantSize(t, "a value", x.v, most, max(0, min(x.size, most)))
		}
		wantSize(t, "a value", x.v, api.MaxWalk, x.size)
		wantSize(t, "a value", x.v, math.MaxInt, x.size)
		wantSize(t, "a value", x.v, math.MinInt, 0)
	}
}

func TestSizeOfSome(t *testing.T) {
	r := rand.New(rand.NewSource(52))
	for range 2000 {
		v := some(r, 5)
		n := len(places(&v))
		for _, most := range []int{0, 1, n / 2, n - 1, n, n + 1, math.MaxInt} {
			wantSize(t, "some value", v, most, max(0, min(n, most)))
		}
	}
}

func TestSizeOfManyItems(t *testing.T) {
	v := array(make([]api.Value, 100000)...)
	for _, most := range []int{1, 4096, 100000, 100001, 100002} {
		wantSize(t, "a long array", v, most, min(100001, most))
		wantSize(t, "a long array in one", array(v), most, min(100002, most))
	}
}

func TestSizeOfSharedAndDeepOnes(t *testing.T) {
	for n := range 62 {
		v := double(text("a"), n)
		size := 1<<(n+1) - 1
		wantSize(t, "a shared one", v, math.MaxInt, size)
		wantSize(t, "a shared one", v, size, size)
		wantSize(t, "a shared one", v, size+1, size)
		wantSize(t, "a shared one", v, size/2+1, size/2+1)
		wantSize(t, "a shared one", v, 4096, min(4096, size))
	}
	for n := 62; n < 200; n++ {
		wantSize(t, "a shared one of very many", double(text("a"), n), math.MaxInt, math.MaxInt)
		wantSize(t, "a shared one of very many", double(text("a"), n), math.MaxInt-1, math.MaxInt-1)
		wantSize(t, "a shared one of very many", double(text("a"), n), api.MaxWalk, api.MaxWalk)
	}
	deep := nest(text("a"), 200000)
	wantSize(t, "a deep one", deep, math.MaxInt, 200001)
	wantSize(t, "a deep one", deep, 200000, 200000)
	wantSize(t, "a deep one", deep, 10, 10)
	x := array(text("a"), text("b"))
	wantSize(t, "one that stands at several depths", array(x, array(x), array(array(x)), x), 100, 16)
}

func TestSizeOfWhatHoldsItself(t *testing.T) {
	for n := 1; n < 5; n++ {
		for _, most := range []int{1, 2, 3, 10, 4096, math.MaxInt} {
			wantSize(t, "what holds itself", ring(n), most, most)
			wantSize(t, "what holds what holds itself", array(text("a"), ring(n), text("b")), most, most)
		}
	}
}

// Promise 5.3.

func TestWhatIsPutIsThere(t *testing.T) {
	r := rand.New(rand.NewSource(53))
	for range 300 {
		o := object(nil)
		model := map[string]api.Value{}
		for range 20 {
			key, v := word(r), some(r, 2)
			o = jval.Put(o, key, v)
			model[key] = v
			wantObject(t, o, model)
			if t.Failed() {
				return
			}
		}
		for range 5 {
			key := word(r)
			v, found := model[key]
			wantGet(t, o, key, v, found)
		}
	}
}

// wantObject asks whether an object has what a map has, and nothing else.
func wantObject(t *testing.T, o api.Value, model map[string]api.Value) {
	t.Helper()
	wantIs(t, "an object that was put together", o, true)
	if keys := slices.Sorted(maps.Keys(model)); !slices.Equal(o.Keys, keys) {
		t.Errorf("the keys are %q, not %q", o.Keys, keys)
	}
	for key, v := range model {
		wantGet(t, o, key, v, true)
	}
}

func TestNothingElseIsTurned(t *testing.T) {
	for _, keys := range [][]string{{"a", "b", "c"}, {"c", "a", "b"}, {"b", "c", "a"}, {"c", "b", "a"}, {"\xff", "", "a\x80"}} {
		o := object(keys, text("1"), text("2"), text("3"))
		for _, key := range []string{"", "a", "aa", "b", "bb", "c", "cc", "\xff", "\xff\xff"} {
			p := jval.Put(o, key, text("x"))
			wantGet(t, p, key, text("x"), true)
			wantValue(t, "what is put again", jval.Put(p, key, text("x")), p)
			for i, k := range keys {
				if k != key {
					wantGet(t, p, k, o.Items[i], true)
				}
			}
			if others := slices.DeleteFunc(slices.Clone(p.Keys), func(k string) bool { return k == key }); !slices.Equal(others, slices.DeleteFunc(slices.Clone(keys), func(k string) bool { return k == key })) {
				t.Errorf("Put(%q) of keys %q has the others as %q", key, keys, others)
			}
		}
	}
}
