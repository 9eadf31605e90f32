package tree_test

import (
	"math"
	"math/rand"
	"slices"
	"strconv"
	"strings"
	"testing"

	"keyhole/api"
	"keyhole/tree"
)

// op is an expression of an Op, with a text and parts.
func op(o int, text string, parts ...api.Expr) api.Expr {
	return api.Expr{Op: o, Text: text, Subs: parts}
}

func dot() api.Expr { return api.Expr{} }

func use(name string) api.Expr { return op(api.Var, name) }

func pipe(a, b api.Expr) api.Expr { return op(api.Pipe, "", a, b) }

func object(names []string, parts ...api.Expr) api.Expr {
	return api.Expr{Op: api.Obj, Names: names, Subs: parts}
}

func release(names []string, parts ...api.Expr) api.Expr {
	return api.Expr{Op: api.Release, Names: names, Subs: parts}
}

func number(coef int64, scale int) api.Expr {
	return api.Expr{Op: api.Lit, Kind: api.Number, Num: api.Num{Coef: coef, Scale: scale}}
}

// dots are so many Dots.
func dots(n int) []api.Expr { return make([]api.Expr, n) }

// keys are so many unlike texts.
func keys(n int) []string {
	out := make([]string, n)
	for i := range out {
		out[i] = strconv.Itoa(i)
	}
	return out
}

// deep is an expression with so many parts, each in the one ahead of it, and one at its end.
func deep(n int, end api.Expr) api.Expr {
	e := end
	for range n {
		e = op(api.Iter, "", e)
	}
	return e
}

// shared is an expression that has another one twice in it, which has one twice in it, and so on, so many times.
func shared(n int, end api.Expr) api.Expr {
	e := end
	for range n {
		e = pipe(e, e)
	}
	return e
}

// ring is what stands in itself behind so many parts; each has one behind that, too.
func ring(n int) api.Expr {
	lists := make([][]api.Expr, n)
	for i := range lists {
		lists[i] = dots(2)
	}
	for i := range lists {
		lists[i][0] = op(api.Pipe, "", lists[(i+1)%n]...)
		lists[i][1] = use("v" + strconv.Itoa(i))
	}
	return lists[0][0]
}

// right are expressions that may be, no two of them the same.
func right() []api.Expr {
	out := []api.Expr{
		dot(), op(api.Empty, ""), op(api.Break, "a"), use("x"), use("_"), use("X9_"), use("abcdefghijklmnop"), use("length"),
		op(api.Lit, ""), {Op: api.Lit, Kind: api.False}, {Op: api.Lit, Kind: api.True},
		number(0, 0), number(-7, 0), number(10, 0), number(15, 1), number(api.MaxCoef-1, 0), number(1-api.MaxCoef, api.MaxScale),
		{Op: api.Lit, Kind: api.String}, {Op: api.Lit, Kind: api.String, Text: "if"}, {Op: api.Lit, Kind: api.String, Text: "\x00\"h\u00e9\U0001d11e"},
		op(api.Field, "", dot()), op(api.Field, "a", dot()), op(api.Field, "if", dot()), op(api.Field, "a b\u00e9", use("x")),
		op(api.Index, "", dot(), dot()), op(api.Iter, "", dot()), pipe(dot(), dot()), op(api.Comma, "", dot(), dot()),
		op(api.If, "", dot(), dot(), dot()), op(api.Arr, ""), op(api.Arr, "", dot()),
		object(nil), object([]string{""}, dot()), object([]string{"b", "a", "\u00e9"}, dot(), dot(), use("x")),
		op(api.Reduce, "x", dot(), dot(), dot()), op(api.Foreach, "x", dot(), dot(), dot()), op(api.Try, "", dot(), dot()),
		op(api.As, "x", dot(), dot()), op(api.Label, "x", dot()), op(api.Range, "", dot()),
		release([]string{"low", "bob"}, dot()), release([]string{"a", "a"}, dot()), release([]string{"if", "z9"}, dot()), release([]string{"abcdefghijklmnop", "a123456789012345"}, dot()),
	}
	for n := range 5 {
		out = append(out, op(api.Call, "f", dots(n)...))
	}
	for _, s := range signs {
		out = append(out, op(api.Bin, s, dot(), dot()))
	}
	return out
}

// wrong are expressions that may not be, each for one reason, no two of them the same.
func wrong() []api.Expr {
	out := []api.Expr{
		// What is left isn't zero.
		{At: 1}, {At: -1}, {Kind: api.True}, {Num: api.Num{Coef: 1}}, {Num: api.Num{Scale: 1}}, {Names: []string{""}}, op(api.Dot, "a"), op(api.Dot, "", dot()),
		{Op: api.Var, Text: "x", At: 1}, {Op: api.Call, Text: "f", At: 1000}, {Op: api.Var, Text: "x", Kind: api.String}, {Op: api.Var, Text: "x", Names: []string{"x"}},
		op(api.Empty, "a"), op(api.Iter, "a", dot()), op(api.Pipe, "|", dot(), dot()), op(api.Arr, "a"), op(api.Range, "a", dot()),
		{Op: api.Obj, Text: "a"}, {Op: api.Release, Text: "a", Names: []string{"low", "bob"}, Subs: dots(1)}, {Op: api.Release, Kind: 1, Names: []string{"low", "bob"}, Subs: dots(1)},

		// Values.
		{Op: api.Lit, Kind: -1}, {Op: api.Lit, Kind: api.Array}, {Op: api.Lit, Kind: api.Object}, {Op: api.Lit, Kind: api.Bad}, {Op: api.Lit, Kind: api.Hole}, {Op: api.Lit, Kind: 9},
		{Op: api.Lit, Kind: api.Bad, Text: "kind"}, {Op: api.Lit, Text: "a"}, {Op: api.Lit, Kind: api.True, Num: api.Num{Coef: 1}}, {Op: api.Lit, Kind: api.Number, Text: "1", Num: api.Num{Coef: 1}},
		{Op: api.Lit, Kind: api.String, Text: "a", Num: api.Num{Coef: 1}}, {Op: api.Lit, Kind: api.String, Text: "\xff"}, {Op: api.Lit, Kind: api.String, Text: "\xed\xa0\x80"},
		{Op: api.Lit, At: 1}, {Op: api.Lit, Names: []string{""}}, {Op: api.Lit, Subs: dots(1)},
		number(10, 1), number(0, 1), number(api.MaxCoef, 0), number(-api.MaxCoef, 0), number(1, 10), number(1, -1), number(math.MinInt64, 0), number(math.MaxInt64, math.MaxInt),

		// Names, texts and signs.
		op(api.Field, "\xff", dot()), op(api.Field, "a\xc3", dot()), op(api.Bin, "", dot(), dot()), op(api.Bin, "=", dot(), dot()), op(api.Bin, "|", dot(), dot()), op(api.Bin, "not", dot(), dot()), op(api.Bin, "++", dot(), dot()), op(api.Bin, " +", dot(), dot()),
		object([]string{"a", "a"}, dot(), dot()), object([]string{"a", "b", "a"}, dots(3)...), object([]string{"\xff"}, dot()), object([]string{"", ""}, dots(2)...),
		object([]string{"a"}), object(nil, dot()), object([]string{"a"}, dots(2)...), object([]string{"a", "b"}, dot()),
		release(nil, dot()), release([]string{"low"}, dot()), release([]string{"low", "bob", "ann"}, dot()), release([]string{"low", "bob"}), release([]string{"low", "bob"}, dots(2)...),
	}
	for _, name := range []string{"", "1", "9a", "a-b", "a b", "$x", "\u00e9", "a\xff", "abcdefghijklmnopq", "if", "range", "null", "and"} {
		for _, o := range []int{api.Var, api.Reduce, api.Foreach, api.Call, api.As, api.Label, api.Break} {
			out = append(out, op(o, name, dots(shapes[o].least)...))
		}
	}
	for _, name := range []string{"", "Low", "l_w", "1w", "l w", "\u00e9", "abcdefghijklmnopq"} {
		out = append(out, release([]string{name, "bob"}, dot()), release([]string{"low", name}, dot()))
	}
	return out
}

// brief is an expression's beginning, for a message.
func brief(e api.Expr) string {
	names := e.Names
	if len(names) > 5 {
		names = names[:5]
	}
	return "Op " + strconv.Itoa(e.Op) + " " + strconv.Quote(e.Text) + " At " + strconv.Itoa(e.At) + " Kind " + strconv.Itoa(e.Kind) + " Num " + strconv.FormatInt(e.Num.Coef, 10) + "/" + strconv.Itoa(e.Num.Scale) + " Names " + strings.Join(names, ",") + " with " + strconv.Itoa(len(e.Subs)) + " parts"
}

func wantIs(t *testing.T, title string, e api.Expr, want bool) {
	t.Helper()
	if got := tree.Is(e); got != want {
		t.Errorf("Is of %s (%s) is %v", title, brief(e), got)
	}
}

// wrapped are expressions that may be, if another one that is in them may be.
func wrapped(e api.Expr) []api.Expr {
	return []api.Expr{
		op(api.Field, "a", e), op(api.Iter, "", e), op(api.Arr, "", e), op(api.Label, "a", e), op(api.Range, "", e), release([]string{"low", "bob"}, e),
		op(api.Index, "", e, dot()), op(api.Index, "", dot(), e), pipe(e, dot()), pipe(dot(), e), op(api.Comma, "", e, dot()), op(api.Comma, "", dot(), e),
		op(api.Bin, "+", e, dot()), op(api.Bin, "//", dot(), e), op(api.Try, "", e, dot()), op(api.Try, "", dot(), e), op(api.As, "x", e, dot()), op(api.As, "x", dot(), e),
		op(api.If, "", e, dot(), dot()), op(api.If, "", dot(), e, dot()), op(api.If, "", dot(), dot(), e),
		op(api.Reduce, "x", e, dot(), dot()), op(api.Reduce, "x", dot(), e, dot()), op(api.Reduce, "x", dot(), dot(), e),
		op(api.Foreach, "x", e, dot(), dot()), op(api.Foreach, "x", dot(), e, dot()), op(api.Foreach, "x", dot(), dot(), e),
		op(api.Call, "f", e), op(api.Call, "f", dot(), dot(), dot(), e), object([]string{"a"}, e), object([]string{"a", "b"}, dot(), e),
		pipe(dot(), pipe(pipe(op(api.Arr, "", e), dot()), dot())), deep(200, e),
	}
}

// Promise 14.1: Is.
func TestIs(t *testing.T) {
	for _, e := range right() {
		wantIs(t, "what may be", e, true)
		for _, w := range wrapped(e) {
			wantIs(t, "what has what may be in it", w, true)
		}
	}
	for _, e := range wrong() {
		wantIs(t, "what may not be", e, false)
		for _, w := range wrapped(e) {
			wantIs(t, "what has what may not be in it", w, false)
		}
	}
}

// Promise 14.1: Is, of all Ops with all that an expression has.
func TestIsOfAllShapes(t *testing.T) {
	names := [][]string{nil, {}, {"a"}, {"low", "bob"}, {"low", "low"}, {"A", "b"}, {"a", "\xff"}, {"a", "b", "c"}, {"a", "b", "a"}, {"a", "b", "c", "d"}, keys(5)}
	for o := -2; o < 25; o++ {
		for _, text := range []string{"", "a", "if", "and", "+", "//", "a b", "\xff", "abcdefghijklmnop", "abcdefghijklmnopq"} {
			for _, l := range names {
				for parts := range 7 {
					for kind := -1; kind < 10; kind++ {
						e := api.Expr{Op: o, Text: text, Names: l, Subs: dots(parts), Kind: kind}
						wantIs(t, "an expression", e, modelIs(e))
					}
					for _, n := range []api.Num{{Coef: 1}, {Coef: 15, Scale: 1}, {Scale: 1}} {
						e := api.Expr{Op: o, Text: text, Names: l, Subs: dots(parts), Kind: api.Number, Num: n}
						wantIs(t, "one with a number", e, modelIs(e))
						e.Kind = 0
						wantIs(t, "one with a number, and no kind", e, modelIs(e))
					}
				}
			}
		}
	}
	for _, o := range []int{math.MinInt, math.MaxInt, 1 << 32, -(1 << 32), 256, 255} {
		wantIs(t, "no Op", op(o, ""), false)
	}
}

// Promise 14.1: Is, of as many parts as there may be, and more.
func TestIsAtTheBound(t *testing.T) {
	wantIs(t, "512 in a row", deep(511, dot()), true)
	wantIs(t, "513 in a row", deep(512, dot()), false)
	wantIs(t, "512 in an object", object(keys(511), dots(511)...), true)
	wantIs(t, "513 in an object", object(keys(512), dots(512)...), false)
	wantIs(t, "511 that share", shared(8, dot()), true)
	wantIs(t, "512 that share", op(api.Arr, "", shared(8, dot())), true)
	wantIs(t, "513 that share", op(api.Arr, "", op(api.Arr, "", shared(8, dot()))), false)
	wantIs(t, "1023 that share", shared(9, dot()), false)
	wantIs(t, "512, the last one wrong", deep(511, op(api.Iter, "")), false)
	wantIs(t, "many keys", object(keys(100000), dot()), false)
	long := strings.Repeat("a", 1<<20)
	wantIs(t, "a long text", op(api.Field, long, dot()), true)
	wantIs(t, "a long string", api.Expr{Op: api.Lit, Kind: api.String, Text: long}, true)
	for n := 500; n < 520; n++ {
		wantIs(t, "pipes", pipe(deep(n-252, dot()), deep(249, dot())), n <= 512)
	}
}

// Promise 14.1: all calls are asked of any expressions.
func TestIsOfWhatIsHuge(t *testing.T) {
	wantIs(t, "what is deep", deep(1000000, dot()), false)
	wantIs(t, "what is shared", shared(100, dot()), false)
	wantIs(t, "what is wide", op(api.Call, "f", dots(1000000)...), false)
	for n := 1; n < 5; n++ {
		wantIs(t, "what stands in itself", ring(n), false)
	}
	wide := dots(5)
	wide[4] = op(api.Call, "f", wide...)
	wantIs(t, "what stands in itself behind others", wide[4], false)
}

func wantSame(t *testing.T, title string, a, b api.Expr, want bool) {
	t.Helper()
	if tree.Same(a, b) != want || tree.Same(b, a) != want {
		t.Errorf("Same of %s (%s; %s) isn't %v both ways round", title, brief(a), brief(b), want)
	}
}

// Promise 14.1: Same.
func TestSame(t *testing.T) {
	all := append(right(), wrong()...)
	for i, a := range all {
		for j, b := range all {
			wantSame(t, "two", a, copied(b), i == j)
		}
	}
	for i, a := range wrapped(use("x")) {
		for j, b := range wrapped(use("x")) {
			wantSame(t, "two that have others in them", a, b, i == j)
		}
		for j, b := range wrapped(use("y")) {
			wantSame(t, "two that have unlike ones in them", a, b, false && i == j)
		}
	}
}

// Promise 14.1: Same, field by field.
func TestSameOfEachField(t *testing.T) {
	base := api.Expr{Op: 3, Text: "a", At: 4, Kind: 5, Num: api.Num{Coef: 6, Scale: 7}, Names: []string{"b", "c"}, Subs: []api.Expr{use("x"), dot()}}
	wantSame(t, "one and itself", base, base, true)
	wantSame(t, "one and its copy", base, copied(base), true)
	turns := []func(*api.Expr){
		func(e *api.Expr) { e.Op++ },
		func(e *api.Expr) { e.Text += "a" },
		func(e *api.Expr) { e.At++ },
		func(e *api.Expr) { e.Kind++ },
		func(e *api.Expr) { e.Num.Coef++ },
		func(e *api.Expr) { e.Num.Scale++ },
		func(e *api.Expr) { e.Names[1] = "d" },
		func(e *api.Expr) { e.Names = e.Names[:1] },
		func(e *api.Expr) { e.Names[0], e.Names[1] = "c", "b" },
		func(e *api.Expr) { e.Names = append(e.Names, "") },
		func(e *api.Expr) { e.Names = nil },
		func(e *api.Expr) { e.Subs = e.Subs[:1] },
		func(e *api.Expr) { e.Subs = nil },
		func(e *api.Expr) { e.Subs = append(e.Subs, dot()) },
		func(e *api.Expr) { e.Subs[0].Text = "y" },
		func(e *api.Expr) { e.Subs[1].At = 1 },
		func(e *api.Expr) { e.Subs[0], e.Subs[1] = e.Subs[1], e.Subs[0] },
		func(e *api.Expr) { e.Subs[1].Subs = dots(1) },
	}
	for i, turn := range turns {
		other := copied(base)
		turn(&other)
		wantSame(t, "one and what it is turned into by "+strconv.Itoa(i), base, other, false)
		wantSame(t, "two with these in them", deep(50, base), deep(50, other), false)
	}
	wantSame(t, "nil lists and empty ones", dot(), api.Expr{Names: []string{}, Subs: []api.Expr{}}, true)
	wantSame(t, "nil lists and empty ones, further in", deep(9, dot()), deep(9, api.Expr{Names: []string{}, Subs: []api.Expr{}}), true)
}

// Promise 14.1: Same is asked of any expressions.
func TestSameOfWhatIsHuge(t *testing.T) {
	wantSame(t, "what is deep", deep(200000, dot()), deep(200000, dot()), true)
	wantSame(t, "what is deep, and deeper", deep(200000, dot()), deep(200001, dot()), false)
	wantSame(t, "what is deep, with unlike ends", deep(200000, use("x")), deep(200000, use("y")), false)
	wantSame(t, "what is shared", shared(100, dot()), shared(100, dot()), true)
	wantSame(t, "what is shared, with unlike ends", shared(100, use("x")), shared(100, use("y")), false)
	wantSame(t, "what is shared, and what isn't", shared(10, use("x")), copied(shared(10, use("x"))), true)
	wantSame(t, "what stands in itself", ring(1), ring(1), true)
	wantSame(t, "what stands in itself, with unlike names", ring(2), ring(3), false)
	wantSame(t, "what stands in itself, and what doesn't", ring(1), pipe(dot(), use("v0")), false)
}

func wantSize(t *testing.T, title string, e api.Expr, most, want int) {
	t.Helper()
	if got := tree.Size(e, most); got != want {
		t.Errorf("Size of %s, at most %d, is %d, not %d", title, most, got, want)
	}
}

// Promise 14.1: Size.
func TestSize(t *testing.T) {
	r := rand.New(rand.NewSource(14))
	for range 300 {
		e := someExpr(r, 1+r.Intn(200))
		if r.Intn(2) == 0 {
			e = strange(r, 4)
		}
		size := modelSize(e)
		for _, most := range []int{math.MinInt, -7, -1, 0, 1, 2, size / 2, size - 1, size, size + 1, 513, math.MaxInt - 1, math.MaxInt} {
			wantSize(t, brief(e), e, most, max(0, min(size, most)))
		}
	}
	wantSize(t, "one", dot(), 9, 1)
	wantSize(t, "two", op(api.Iter, "", dot()), 9, 2)
	wantSize(t, "two that may not be", op(-1, "\xff", dot()), 9, 2)
	for n := range 62 {
		wantSize(t, "what is shared", shared(n, dot()), math.MaxInt, 1<<(n+1)-1)
		wantSize(t, "what is shared", shared(n, dot()), 1<<(n+1)-2, 1<<(n+1)-2)
	}
	for _, most := range []int{-1, 0, 1, 100, math.MaxInt} {
		wantSize(t, "what is shared far", shared(200, dot()), most, max(0, most))
		wantSize(t, "what stands in itself", ring(3), most, max(0, most))
		wantSize(t, "what is deep", deep(1000000, dot()), most, max(0, min(most, 1000001)))
	}
}

// seen is what a walk tells, until it was asked so often, and what it answers.
func seen(e api.Expr, stop int) ([]api.Expr, bool) {
	var out []api.Expr
	ok := tree.Walk(e, func(p api.Expr) bool {
		out = append(out, p)
		return len(out) != stop
	})
	return out, ok
}

// wantWalk holds a walk against all parts in order, and those that stop at each of them, if there are few.
func wantWalk(t *testing.T, e api.Expr) {
	t.Helper()
	want := modelParts(e)
	step := 1 + len(want)/20
	for stop := 0; stop <= len(want)+1; stop += step {
		told := want
		whole := stop == 0 || stop > len(want)
		if !whole {
			told = want[:stop]
		}
		got, ok := seen(e, stop)
		if ok != whole || !slices.EqualFunc(got, told, modelSame) {
			t.Errorf("a walk of %s that stops at %d is %v, and tells %d parts of %d", brief(e), stop, ok, len(got), len(told))
		}
	}
}

// Promise 14.2: Walk.
func TestWalk(t *testing.T) {
	for _, e := range append(right(), wrong()...) {
		wantWalk(t, e)
		for _, w := range wrapped(e)[:12] {
			wantWalk(t, w)
		}
	}
	r := rand.New(rand.NewSource(142))
	for range 300 {
		wantWalk(t, someExpr(r, 1+r.Intn(100)))
		wantWalk(t, strange(r, 4))
	}
	// On both sides of the size that one may have.
	for n := 505; n < 520; n++ {
		wantWalk(t, deep(n, use("x")))
		wantWalk(t, object(nil, dots(n)...))
		wantWalk(t, op(api.Try, "", deep(n-300, use("x")), deep(290, use("y"))))
	}
	wantWalk(t, shared(9, use("x")))
	wantWalk(t, shared(10, pipe(use("x"), op(api.Iter, ""))))
}

// Promise 14.2: in order means that an expression comes ahead of its parts.
func TestWalkTellsTheOrder(t *testing.T) {
	e := op(api.As, "a", pipe(use("b"), op(api.Break, "c")), op(api.If, "", use("d"), op(api.Call, "e", use("f")), use("g")))
	var told []string
	ok := tree.Walk(e, func(p api.Expr) bool {
		told = append(told, p.Text)
		return true
	})
	if got := strings.Join(told, ","); !ok || got != "a,,b,c,,d,e,f,g" {
		t.Errorf("told is %s, %v", got, ok)
	}
}

// wantStop holds a walk that stops when it is asked for the nth time.
func wantStop(t *testing.T, title string, e api.Expr, n int, last string) {
	t.Helper()
	asked, text := 0, ""
	ok := tree.Walk(e, func(p api.Expr) bool {
		asked++
		text = p.Text
		return asked < n
	})
	if ok || asked != n || text != last {
		t.Errorf("a walk of %s, to stop at %d, is %v, and asks %d times, last of %q, not %q", title, n, ok, asked, text, last)
	}
}

// Promise 14.2: Walk is asked of any expressions.
func TestWalkOfWhatIsHuge(t *testing.T) {
	asked := 0
	count := func(api.Expr) bool {
		asked++
		return true
	}
	if !tree.Walk(deep(1000000, dot()), count) || asked != 1000001 {
		t.Errorf("a walk of what is deep asks %d times", asked)
	}
	asked = 0
	if !tree.Walk(shared(20, dot()), count) || asked != 1<<21-1 {
		t.Errorf("a walk of what is shared asks %d times", asked)
	}
	wantStop(t, "what is deep", deep(1000000, use("x")), 1000001, "x")
	wantStop(t, "what is shared far", shared(100, use("x")), 101, "x")
	wantStop(t, "what is shared far", shared(100, use("x")), 102, "x")
	wantStop(t, "what is shared far", shared(100, use("x")), 103, "")
	for n := 1; n < 5; n++ {
		for _, stop := range []int{1, 2, 9, 10, 1000, 1000000} {
			wantStop(t, "what stands in itself", ring(n), stop, "")
		}
	}
	// The part that stands in itself is behind one that doesn't.
	list := []api.Expr{use("x"), {}}
	list[1] = op(api.Label, "y", list...)
	wantStop(t, "what stands in itself, at last", list[1], 1, "y")
	wantStop(t, "what stands in itself, at last", list[1], 1000000, "x")
	wantStop(t, "what stands in itself, at last", list[1], 999999, "y")
}

// Promise P1: Walk ends, and doesn't panic.
func TestWalkEnds(t *testing.T) {
	for n := 1; n < 4; n++ {
		if !tree.Walk(ring(n), func(api.Expr) bool { return true }) {
			t.Errorf("a walk of what stands in itself is false, but nothing told so")
		}
	}
	if tree.Walk(dot(), nil) || tree.Walk(deep(600, dot()), nil) {
		t.Error("a walk that asks nothing is true")
	}
}

func wantVars(t *testing.T, title string, e api.Expr, want ...string) {
	t.Helper()
	if got := tree.Vars(e); !slices.Equal(got, want) {
		t.Errorf("Vars of %s is %q, not %q", title, got, want)
	}
}

// Promise 14.2: Vars.
func TestVars(t *testing.T) {
	x, y, z := use("x"), use("y"), use("z")
	sum := op(api.Bin, "+", x, y)
	wantVars(t, ".", dot())
	wantVars(t, "$x", x, "x")
	wantVars(t, ". as $x | $x + $y", op(api.As, "x", dot(), sum), "y")
	wantVars(t, "$x + $y", sum, "x", "y")
	wantVars(t, "$y + $x", op(api.Bin, "+", y, x), "y", "x")
	wantVars(t, "$x + $x", op(api.Bin, "+", x, x), "x")
	wantVars(t, "$x as $x | $x", op(api.As, "x", x, x), "x")
	wantVars(t, "$y as $x | $x", op(api.As, "x", y, x), "y")
	wantVars(t, "(. as $x | $x) | $x", pipe(op(api.As, "x", dot(), x), x), "x")
	wantVars(t, "$x | . as $x | $x", pipe(x, op(api.As, "x", dot(), x)), "x")
	wantVars(t, ". as $x | . as $y | $x + $y + $z", op(api.As, "x", dot(), op(api.As, "y", dot(), op(api.Bin, "+", sum, z))), "z")
	wantVars(t, ". as $x | $y as $x | $x", op(api.As, "x", dot(), op(api.As, "x", y, x)), "y")
	wantVars(t, ". as $x | $x as $x | $x", op(api.As, "x", dot(), op(api.As, "x", x, x)))
	wantVars(t, "(. as $x | (. as $x | $x) | $x) | $z", pipe(op(api.As, "x", dot(), pipe(op(api.As, "x", dot(), x), x)), z), "z")
	for _, o := range []int{api.Reduce, api.Foreach} {
		wantVars(t, "a loop over $x", op(o, "x", x, dot(), dot()), "x")
		wantVars(t, "a loop from $x on", op(o, "x", dot(), x, dot()), "x")
		wantVars(t, "a loop by $x", op(o, "x", dot(), dot(), x))
		wantVars(t, "a loop of others", op(o, "x", z, y, sum), "z", "y")
		wantVars(t, "a loop by another name", op(o, "z", dot(), dot(), sum), "x", "y")
		wantVars(t, "a loop, and $x", pipe(op(o, "x", dot(), dot(), x), x), "x")
	}
	for _, o := range []int{api.Label, api.Break, api.Call, api.Field} {
		wantVars(t, "a text that is no variable's", op(o, "x", dots(shapes[o].least)...))
		wantVars(t, "a name that binds nothing", op(o, "x", y, x), "y", "x")
	}
	wantVars(t, "an object", object([]string{"b", "a"}, y, x), "y", "x")
	wantVars(t, "a release", release([]string{"x", "y"}, z), "z")
	wantVars(t, "a string", api.Expr{Op: api.Lit, Kind: api.String, Text: "x"})
	wantVars(t, "an if", op(api.If, "", z, y, x), "z", "y", "x")
}

// Promise 14.2: Vars, against the model; and that no answer hangs on what shares memory.
func TestVarsOfMany(t *testing.T) {
	r := rand.New(rand.NewSource(1422))
	for i := range 3000 {
		e := someExpr(r, 1+r.Intn(60))
		if i%2 == 0 {
			e = strange(r, 4)
		}
		wantVars(t, brief(e), e, modelVars(e)...)
		wantVars(t, "what is shared", tangled(r, e), modelVars(copied(tangled(r, e)))...)
	}
}

// tangled is an expression some of whose lists of parts are put in place of others: always the same ones, for one expression.
func tangled(_ *rand.Rand, e api.Expr) api.Expr {
	r := rand.New(rand.NewSource(int64(modelSize(e))))
	parts := modelParts(e)
	out := dot()
	for range 6 {
		a, b := parts[r.Intn(len(parts))], parts[r.Intn(len(parts))]
		o := []int{api.Pipe, api.As, api.Reduce, api.Foreach, api.Var}[r.Intn(5)]
		out = op(o, someName(r), out, a, out, b)
		if r.Intn(3) == 0 {
			out.Subs = out.Subs[:r.Intn(5)]
		}
		parts = append(parts, out)
	}
	return out
}

// Promise 14.2: Vars is asked of any expressions.
func TestVarsOfWhatMayNotBe(t *testing.T) {
	x, y := use("x"), use("y")
	wantVars(t, "an As without parts", op(api.As, "x"))
	wantVars(t, "an As with one part", op(api.As, "x", x), "x")
	wantVars(t, "an As with three parts", op(api.As, "x", dot(), x, x), "x")
	wantVars(t, "a Reduce with two parts", op(api.Reduce, "x", dot(), x), "x")
	wantVars(t, "a Foreach with four parts", op(api.Foreach, "y", dot(), dot(), pipe(y, x), y), "x", "y")
	wantVars(t, "a Var with parts", op(api.Var, "y", x, y), "y", "x")
	wantVars(t, "no Op", op(-1, "z", x, op(22, "z", y)), "x", "y")
	wantVars(t, "names that are none", pipe(use("if"), pipe(use(""), use("\xff"))), "if", "", "\xff")
	wantVars(t, "a name that is none, bound", op(api.As, "", dot(), pipe(use(""), x)), "x")
}

// bindings are so many As in one another, each of a name of its own, with an end.
func bindings(n int, end api.Expr) api.Expr {
	for i := range n {
		end = op(api.As, "n"+strconv.Itoa(i), end, end)
	}
	return end
}

// Promise 14.2: Vars of what is deep, shared far, or stands in itself.
func TestVarsOfWhatIsHuge(t *testing.T) {
	x := use("x")
	wantVars(t, "what is deep", deep(1000000, x), "x")
	long := x
	for i := range 100000 {
		long = op(api.As, "x", use("v"+strconv.Itoa(i%7)), long)
	}
	wantVars(t, "many bindings", long, "v4", "v3", "v2", "v1", "v0", "v6", "v5")
	wantVars(t, "what is shared", shared(100, pipe(use("y"), x)), "y", "x")
	wantVars(t, "what is shared, and bound", op(api.As, "y", dot(), shared(100, pipe(use("y"), x))), "x")
	wantVars(t, "what is bound, and then isn't", op(api.As, "y", dot(), pipe(shared(100, use("y")), dot()), shared(100, use("y"))), "y")
	wantVars(t, "bindings that share", bindings(70, x), "x")
	wantVars(t, "bindings that share, and bind", bindings(70, pipe(use("n0"), pipe(use("n69"), x))), "n0", "n69", "x")
	both := pipe(use("y"), use("x"))
	wantVars(t, "what is shared under this, and that", pipe(op(api.As, "x", dot(), both), op(api.As, "y", dot(), both)), "y", "x")
	wantVars(t, "what is shared under both, this, and that", pipe(op(api.As, "y", dot(), op(api.As, "x", dot(), both)), pipe(op(api.As, "x", dot(), both), op(api.As, "y", dot(), both))), "y", "x")
	wantNames(t, ring(3), "v0", "v1", "v2")
	list := []api.Expr{{}, x, use("y")}
	list[0] = op(api.Reduce, "x", list...)
	list[2] = op(api.Foreach, "z", list[0], use("z"), pipe(use("z"), use("y")))
	wantNames(t, list[0], "x", "y", "z")
	wantNames(t, op(api.As, "y", dot(), list[0]), "x", "z")
}

// wantNames holds the names of what stands in itself, which has no order.
func wantNames(t *testing.T, e api.Expr, want ...string) {
	t.Helper()
	got := tree.Vars(e)
	slices.Sort(got)
	if !slices.Equal(got, want) {
		t.Errorf("Vars of what stands in itself is %q, not %q", got, want)
	}
}

// Promise 14.2: Signs.
func TestSigns(t *testing.T) {
	got := tree.Signs()
	if !slices.Equal(got, signs) {
		t.Errorf("Signs is %q", got)
	}
	got[0] = "x"
	if !slices.Equal(tree.Signs(), signs) {
		t.Error("Signs hands out what it keeps")
	}
}

// Promise 14.3: a part of what may be, may be; it uses no name that the whole doesn't use or bind.
func TestParts(t *testing.T) {
	r := rand.New(rand.NewSource(143))
	for range 1000 {
		e := someExpr(r, 1+r.Intn(120))
		wantIs(t, "what may be", e, modelIs(e))
		if !tree.Is(e) {
			continue
		}
		known := append(tree.Vars(e), modelBound(e)...)
		tree.Walk(e, func(p api.Expr) bool {
			wantIs(t, "a part of what may be", p, true)
			for _, name := range tree.Vars(p) {
				if !slices.Contains(known, name) {
					t.Errorf("%s uses %s, but the whole, %s, neither uses nor binds it", brief(p), name, brief(e))
				}
			}
			return true
		})
	}
}

// What is handed in is not changed.
func TestNothingIsChanged(t *testing.T) {
	r := rand.New(rand.NewSource(7))
	for range 200 {
		e := strange(r, 3)
		if r.Intn(2) == 0 {
			e = someExpr(r, 40)
		}
		before := copied(e)
		tree.Is(e)
		tree.Same(e, e)
		tree.Size(e, 9)
		tree.Vars(e)
		tree.Walk(e, func(api.Expr) bool { return true })
		if !modelSame(e, before) {
			t.Errorf("%s is changed", brief(before))
		}
	}
}
