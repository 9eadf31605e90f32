package spell_test

import (
	"math"
	"math/rand"
	"slices"
	"strconv"
	"strings"
	"testing"

	"keyhole/api"
	"keyhole/parse"
	"keyhole/spell"
	"keyhole/tree"
)

// op is an expression of an Op, with a text and parts.
func op(o int, text string, parts ...api.Expr) api.Expr {
	return api.Expr{Op: o, Text: text, Subs: parts}
}

func dot() api.Expr { return api.Expr{} }

func use(name string) api.Expr { return op(api.Var, name) }

func text(s string) api.Expr { return api.Expr{Op: api.Lit, Kind: api.String, Text: s} }

func number(coef int64, scale int) api.Expr {
	return api.Expr{Op: api.Lit, Kind: api.Number, Num: api.Num{Coef: coef, Scale: scale}}
}

func field(name string) api.Expr { return op(api.Field, name, dot()) }

func named(o int, names []string, parts ...api.Expr) api.Expr {
	return api.Expr{Op: o, Names: names, Subs: parts}
}

// dots are so many Dots.
func dots(n int) []api.Expr { return make([]api.Expr, n) }

// keys are so many unlike texts.
func keys(n int) []string {
	out := make([]string, n)
	for i := range out {
		out[i] = strconv.Itoa(i)
	}
	return out
}

// deep is an expression with so many parts, each in the one ahead of it, and one at its end.
func deep(n int, end api.Expr) api.Expr {
	e := end
	for range n {
		e = op(api.Iter, "", e)
	}
	return e
}

// ring is what stands in itself.
func ring() api.Expr {
	l := dots(1)
	l[0] = op(api.Iter, "", l...)
	return l[0]
}

// brief is a text's beginning, for a message.
func brief(s string) string { return s[:min(len(s), 300)] }

// texted are expressions and their texts.
func texted() []struct {
	e    api.Expr
	want string
} {
	a, b, x := field("a"), field("b"), use("x")
	minus := number(-1, 0)
	return []struct {
		e    api.Expr
		want string
	}{
		// What has no parts.
		{dot(), "."}, {op(api.Empty, ""), "empty"}, {x, "$x"}, {op(api.Break, "f"), "break $f"}, {op(api.Call, "f"), "f"}, {op(api.Arr, ""), "[]"}, {op(api.Obj, ""), "{}"},
		{op(api.Lit, ""), "null"}, {api.Expr{Op: api.Lit, Kind: api.False}, "false"}, {api.Expr{Op: api.Lit, Kind: api.True}, "true"},
		{number(0, 0), "0"}, {number(15, 1), "1.5"}, {minus, "(-1)"}, {number(-25, 2), "(-0.25)"}, {number(100, 0), "100"}, {number(1, 9), "0.000000001"}, {number(api.MaxCoef-1, 0), "999999999999999"}, {number(1-api.MaxCoef, 0), "(-999999999999999)"},
		{text(""), `""`}, {text("a"), `"a"`}, {text("\"\\\n\x01"), `"\"\\\n\u0001"`}, {text("h\u00e9\u20ac"), "\"h\u00e9\u20ac\""}, {text("if"), `"if"`},

		// Each that has parts: such as stand as they are, and others.
		{a, `."a"`}, {field(""), `.""`}, {field("a b\""), `."a b\""`}, {field("if"), `."if"`}, {op(api.Field, "b", a), `(."a")."b"`}, {op(api.Field, "b", x), `$x."b"`}, {op(api.Field, "b", number(1, 0)), `1."b"`}, {op(api.Field, "b", minus), `(-1)."b"`}, {op(api.Field, "b", op(api.Empty, "")), `empty."b"`}, {op(api.Field, "b", text("a")), `"a"."b"`},
		{op(api.Index, "", dot(), dot()), ".[.]"}, {op(api.Index, "", a, b), `(."a")[."b"]`}, {op(api.Index, "", x, op(api.Pipe, "", a, dot())), `$x[(."a")|.]`}, {op(api.Index, "", dot(), minus), ".[(-1)]"},
		{op(api.Iter, "", dot()), ".[]"}, {op(api.Iter, "", op(api.Iter, "", dot())), "(.[])[]"}, {op(api.Iter, "", op(api.Lit, "")), "null[]"}, {op(api.Iter, "", op(api.Arr, "")), "([])[]"},
		{op(api.Pipe, "", dot(), dot()), ".|."}, {op(api.Pipe, "", a, op(api.Comma, "", b, number(1, 0))), `(."a")|((."b"),1)`}, {op(api.Pipe, "", op(api.Pipe, "", dot(), x), dot()), "(.|$x)|."}, {op(api.Pipe, "", dot(), op(api.Pipe, "", x, dot())), ".|($x|.)"},
		{op(api.Comma, "", dot(), op(api.Empty, "")), ".,empty"}, {op(api.Comma, "", a, op(api.Comma, "", b, minus)), `(."a"),((."b"),(-1))`},
		{op(api.If, "", dot(), dot(), dot()), "if . then . else . end"}, {op(api.If, "", a, op(api.Pipe, "", dot(), dot()), op(api.Comma, "", a, x)), `if ."a" then .|. else (."a"),$x end`},
		{op(api.Bin, "+", dot(), dot()), ". + ."}, {op(api.Bin, "//", a, minus), `(."a") // (-1)`}, {op(api.Bin, "and", x, op(api.Bin, "or", x, dot())), "$x and ($x or .)"}, {op(api.Bin, "-", number(1, 0), op(api.Bin, "%", dot(), b)), `1 - (. % (."b"))`},
		{op(api.Arr, "", dot()), "[.]"}, {op(api.Arr, "", op(api.Comma, "", a, dot())), `[(."a"),.]`}, {op(api.Arr, "", op(api.Arr, "")), "[[]]"},
		{named(api.Obj, []string{"a"}, dot()), `{"a":.}`}, {named(api.Obj, []string{"b", "a", ""}, a, x, op(api.Obj, "")), `{"b":(."a"),"a":$x,"":({})}`}, {named(api.Obj, []string{"\u00e9\\"}, minus), "{\"\u00e9\\\\\":(-1)}"},
		{op(api.Reduce, "x", dot(), dot(), dot()), "reduce . as $x(.;.)"}, {op(api.Reduce, "s", op(api.Iter, "", dot()), number(0, 0), op(api.Bin, "+", dot(), use("s"))), "reduce (.[]) as $s(0;. + $s)"},
		{op(api.Foreach, "x", x, x, x), "foreach $x as $x($x;$x)"}, {op(api.Foreach, "s", a, op(api.Pipe, "", a, a), b), `foreach (."a") as $s((."a")|(."a");."b")`},
		{op(api.Try, "", dot(), dot()), "try . catch ."}, {op(api.Try, "", a, op(api.Try, "", b, x)), `try (."a") catch (try (."b") catch $x)`},
		{op(api.Call, "f", dot()), "f(.)"}, {op(api.Call, "f", a, op(api.Comma, "", dot(), x), minus, op(api.Call, "g")), `f(."a";.,$x;(-1);g)`},
		{op(api.As, "x", dot(), dot()), ". as $x|."}, {op(api.As, "x", a, op(api.As, "y", x, b)), `(."a") as $x|($x as $y|(."b"))`},
		{op(api.Label, "f", dot()), "label $f|."}, {op(api.Label, "f", op(api.Break, "f")), "label $f|(break $f)"},
		{named(api.Release, []string{"low", "bob"}, dot()), "release(.;low;bob)"}, {named(api.Release, []string{"end", "a9"}, op(api.Pipe, "", a, x)), `release((."a")|$x;end;a9)`},
		{op(api.Range, "", dot()), "range(.)"}, {op(api.Range, "", op(api.Bin, "*", a, x)), `range((."a") * $x)`}, {op(api.Range, "", minus), "range((-1))"},
	}
}

// wantExpr holds what Expr answers, and that it is parsed as it was.
func wantExpr(t *testing.T, e api.Expr, want string) {
	t.Helper()
	s, err := spell.Expr(e)
	if err != api.OK || s != want {
		t.Errorf("Expr is %s, %d, not %s", brief(s), err, brief(want))
	}
	x, at, err := parse.Expr(s)
	if len(s) > api.MaxQuery {
		if err != api.ErrLong {
			t.Errorf("%s is long, and parsed: %d", brief(s), err)
		}
		return
	}
	if err != api.OK || at != 0 || !tree.Same(x, e) {
		t.Errorf("%s isn't parsed as it was: %d at %d", brief(s), err, at)
	}
}

// Promise 16.1: Expr; 16.2.
func TestExpr(t *testing.T) {
	for _, x := range texted() {
		wantExpr(t, x.e, x.want)
		if got := modelExpr(x.e); got != x.want {
			t.Errorf("the model tells %s, not %s", got, x.want)
		}
	}
}

// holders are expressions that have another one in them, at each place where there may be one.
func holders(e api.Expr) []api.Expr {
	var out []api.Expr
	hold := func(h api.Expr, n int) {
		for i := range n {
			h.Subs = dots(n)
			h.Subs[i] = e
			out = append(out, h)
		}
	}
	for o, n := range counts {
		switch o {
		case api.Release:
			hold(named(o, []string{"low", "bob"}), n)
		case api.Reduce, api.Foreach, api.As, api.Label, api.Field:
			hold(op(o, "n"), n)
		case api.Bin:
			for _, s := range signs {
				hold(op(o, s), n)
			}
		default:
			hold(op(o, ""), n)
		}
	}
	for n := 1; n < 5; n++ {
		hold(op(api.Call, "f"), n)
		hold(named(api.Obj, keys(n)), n)
	}
	hold(op(api.Arr, ""), 1)
	return out
}

// Promise 16.1: Expr, of each in each, and of those in each; 16.2.
func TestEachInEach(t *testing.T) {
	for _, x := range texted() {
		for _, h := range holders(x.e) {
			wantExpr(t, h, modelExpr(h))
		}
	}
	for _, x := range []api.Expr{dot(), number(-1, 0), field("a")} {
		for _, h := range holders(x) {
			for _, hh := range holders(h) {
				wantExpr(t, hh, modelExpr(hh))
			}
		}
	}
}

// sameAnyway tells by the chapter's words whether programs are the same.
func sameAnyway(a, b api.Program) bool {
	return tree.Same(a.Main, b.Main) && slices.EqualFunc(a.Funcs, b.Funcs, func(f, g api.Func) bool {
		return f.Name == g.Name && slices.Equal(f.Params, g.Params) && tree.Same(f.Body, g.Body)
	})
}

// wantQuery holds what Query answers of what may be, and that it is parsed as it was.
func wantQuery(t *testing.T, p api.Program, want string) {
	t.Helper()
	if !spell.Is(p) {
		t.Errorf("Is of %s is false", brief(want))
	}
	s, err := spell.Query(p)
	if err != api.OK || s != want {
		t.Errorf("Query is %s, %d, not %s", brief(s), err, brief(want))
	}
	got, at, err := parse.Query(s)
	if len(s) > api.MaxQuery {
		if err != api.ErrLong {
			t.Errorf("%s is long, and parsed: %d", brief(s), err)
		}
		return
	}
	if err != api.OK || at != 0 || !sameAnyway(got, p) || !spell.Same(got, p) {
		t.Errorf("%s isn't parsed as it was: %d at %d", brief(s), err, at)
	}
}

// Promise 16.1: Query; 16.2.
func TestQuery(t *testing.T) {
	f := api.Func{Name: "f", Body: dot()}
	g := api.Func{Name: "g", Params: []string{"x"}, Body: use("x")}
	h := api.Func{Name: "h", Params: []string{"a", "b", "c", "a"}, Body: op(api.Pipe, "", field("a"), dot())}
	list := []struct {
		p    api.Program
		want string
	}{
		{api.Program{}, "."},
		{api.Program{Main: op(api.Call, "f")}, "f"},
		{api.Program{Main: op(api.Pipe, "", dot(), field("a"))}, `.|(."a")`},
		{api.Program{Main: number(-1, 0)}, "(-1)"},
		{api.Program{Funcs: []api.Func{f}}, "def f:.;."},
		{api.Program{Funcs: []api.Func{f}, Main: op(api.Call, "f")}, "def f:.;f"},
		{api.Program{Funcs: []api.Func{g}, Main: op(api.Call, "g", dot())}, "def g($x):$x;g(.)"},
		{api.Program{Funcs: []api.Func{h}, Main: op(api.Comma, "", dot(), dot())}, `def h($a;$b;$c;$a):(."a")|.;.,.`},
		{api.Program{Funcs: []api.Func{h, f, g, f}, Main: op(api.Empty, "")}, `def h($a;$b;$c;$a):(."a")|.;def f:.;def g($x):$x;def f:.;empty`},
		{api.Program{Funcs: []api.Func{{Name: "f", Params: []string{}, Body: op(api.Label, "x", use("x"))}}, Main: op(api.As, "x", dot(), use("x"))}, "def f:label $x|$x;. as $x|$x"},
	}
	for _, x := range list {
		wantQuery(t, x.p, x.want)
		if got := modelQuery(x.p); got != x.want {
			t.Errorf("the model tells %s, not %s", got, x.want)
		}
	}
	for _, x := range texted() {
		wantQuery(t, api.Program{Main: x.e}, x.want)
		wantQuery(t, api.Program{Funcs: []api.Func{{Name: "f", Body: x.e}}, Main: x.e}, "def f:"+x.want+";"+x.want)
	}
}

// Promise 16.1: Query, of many programs; 16.2.
func TestMany(t *testing.T) {
	r := rand.New(rand.NewSource(161))
	short, long := 0, 0
	for i := range 10000 {
		p := someProgram(r, []int{0, 2, 5, 32}[i%4], []int{8, 40, 500}[i/4%3])
		want := modelQuery(p)
		wantQuery(t, p, want)
		wantExpr(t, p.Main, modelExpr(p.Main))
		if len(want) > api.MaxQuery {
			long++
		} else {
			short++
		}
	}
	if short < 8000 || long < 100 {
		t.Errorf("%d are short, %d long", short, long)
	}
}

// Promise 16.1: as many functions, variables and parts as there may be.
func TestAtTheBounds(t *testing.T) {
	funcs := make([]api.Func, 33)
	for i := range funcs {
		funcs[i] = api.Func{Name: "f" + strconv.Itoa(i), Body: op(api.Call, "f0")}
	}
	for n := range 33 {
		p := api.Program{Funcs: funcs[:n]}
		wantQuery(t, p, modelQuery(p))
	}
	wantWrong(t, "33 functions", api.Program{Funcs: funcs})
	for n := range 7 {
		p := api.Program{Funcs: []api.Func{{Name: "f", Params: []string{"a", "b", "c", "d", "e", "f"}[:n]}}}
		if n <= 4 {
			wantQuery(t, p, modelQuery(p))
		} else {
			wantWrong(t, strconv.Itoa(n)+" variables", p)
		}
	}
	for n := 509; n < 515; n++ {
		e := deep(n-1, dot())
		main, body := api.Program{Main: e}, api.Program{Funcs: []api.Func{{Name: "f", Body: e}}}
		if n <= 512 {
			wantQuery(t, main, modelQuery(main))
			wantQuery(t, body, modelQuery(body))
			wantExpr(t, e, modelExpr(e))
			continue
		}
		wantWrong(t, strconv.Itoa(n)+" parts", main)
		wantWrong(t, strconv.Itoa(n)+" parts in a body", body)
		wantWrongExpr(t, strconv.Itoa(n)+" parts", e)
	}
	var full []api.Func
	for i := range 32 {
		full = append(full, api.Func{Name: "f" + strconv.Itoa(i), Params: []string{"a", "b", "c", "d"}, Body: deep(511, dot())})
	}
	p := api.Program{Funcs: full, Main: deep(511, dot())}
	wantQuery(t, p, modelQuery(p))
}

// Promise 16.2: a text of just as many bytes as a query has at most, and of one more.
func TestAtTheLength(t *testing.T) {
	for n := 4090; n < 4100; n++ {
		wantExpr(t, text(strings.Repeat("a", n-2)), `"`+strings.Repeat("a", n-2)+`"`)
		wantQuery(t, api.Program{Main: field(strings.Repeat("a", n-3))}, `."`+strings.Repeat("a", n-3)+`"`)
	}
	long := strings.Repeat("\u20ac", 2000)
	wantExpr(t, text(long), `"`+long+`"`)
}

// wantWrong holds what is told of a program that may not be.
func wantWrong(t *testing.T, title string, p api.Program) {
	t.Helper()
	if spell.Is(p) {
		t.Errorf("Is of %s is true", title)
	}
	if s, e := spell.Query(p); s != "" || e != api.ErrArg {
		t.Errorf("Query of %s is %q, %d", title, brief(s), e)
	}
}

// wantWrongExpr holds what is told of an expression that may not be.
func wantWrongExpr(t *testing.T, title string, e api.Expr) {
	t.Helper()
	if s, err := spell.Expr(e); s != "" || err != api.ErrArg {
		t.Errorf("Expr of %s is %q, %d", title, brief(s), err)
	}
}

// wrong are expressions that may not be.
func wrong() []api.Expr {
	return []api.Expr{
		{Op: -1}, {Op: 22}, {Op: math.MinInt}, {Op: math.MaxInt}, {At: 1}, {Kind: 1}, {Num: api.Num{Coef: 1}}, {Names: []string{"a"}}, {Text: "a"}, {Subs: dots(1)},
		use(""), use("if"), use("a b"), use("\u00e9"), use("abcdefghijklmnopq"), {Op: api.Var, Text: "x", At: 1}, op(api.Break, ""), op(api.Break, "1"), op(api.Empty, "", dot()),
		{Op: api.Lit, Kind: api.Array}, {Op: api.Lit, Kind: api.Bad}, {Op: api.Lit, Kind: -1}, {Op: api.Lit, Text: "a"}, number(10, 1), number(api.MaxCoef, 0), number(1, 10), number(1, -1), text("\xff"), text("\xed\xa0\x80"),
		field("\xff"), op(api.Field, "a"), op(api.Field, "a", dots(2)...), op(api.Index, "", dot()), op(api.Index, ""), op(api.Iter, ""), op(api.Pipe, "", dot()), op(api.Comma, ""), op(api.If, "", dots(2)...), op(api.If, "", dots(4)...),
		op(api.Bin, "", dots(2)...), op(api.Bin, "=", dots(2)...), op(api.Bin, "|", dots(2)...), op(api.Bin, "+", dot()), op(api.Arr, "", dots(2)...), op(api.Arr, "a"),
		named(api.Obj, []string{"a"}), named(api.Obj, nil, dot()), named(api.Obj, []string{"a", "a"}, dots(2)...), named(api.Obj, []string{"\xff"}, dot()),
		op(api.Reduce, "x", dots(2)...), op(api.Reduce, "", dots(3)...), op(api.Foreach, "x"), op(api.Foreach, "as", dots(3)...), op(api.Try, "", dot()), op(api.Call, "f", dots(5)...), op(api.Call, ""), op(api.Call, "range", dot()),
		op(api.As, "x", dot()), op(api.As, "$x", dots(2)...), op(api.Label, "x"), op(api.Label, "", dot()), op(api.Range, ""), op(api.Range, "", dots(2)...),
		named(api.Release, nil, dot()), named(api.Release, []string{"low"}, dot()), named(api.Release, []string{"low", "bob"}), named(api.Release, []string{"Low", "bob"}, dot()), named(api.Release, []string{"low", ""}, dot()), named(api.Release, []string{"a", "b", "c"}, dot()),
	}
}

// Promise 16.1: what may not be, at any place.
func TestWrong(t *testing.T) {
	for i, e := range wrong() {
		title := "wrong one " + strconv.Itoa(i)
		wantWrongExpr(t, title, e)
		wantWrong(t, title, api.Program{Main: e})
		for _, h := range holders(e) {
			wantWrongExpr(t, title+" in another one", h)
		}
		for n := 1; n < 4; n++ {
			for at := range n {
				p := api.Program{Funcs: make([]api.Func, n)}
				for j := range p.Funcs {
					p.Funcs[j] = api.Func{Name: "f", Params: []string{"a"}}
				}
				p.Funcs[at].Body = e
				wantWrong(t, title+" in a function", p)
			}
		}
	}
}

// Promise 16.1: Is, of names.
func TestNames(t *testing.T) {
	for _, s := range []string{"", "1", "9a", "a-b", "a b", "$x", "\u00e9", "a\xff", "abcdefghijklmnopq", "def", "if", "range", "null", "and", "f(", " f"} {
		wantWrong(t, "a function's name "+strconv.Quote(s), api.Program{Funcs: []api.Func{{Name: s}}})
		wantWrong(t, "a last function's name "+strconv.Quote(s), api.Program{Funcs: []api.Func{{Name: "f"}, {Name: "g"}, {Name: s}}})
		for n := 1; n < 5; n++ {
			params := []string{"a", "b", "c", "d"}[:n]
			params[n-1] = s
			wantWrong(t, "a variable's name "+strconv.Quote(s), api.Program{Funcs: []api.Func{{Name: "f", Params: params}}})
			wantWrong(t, "a later variable's name "+strconv.Quote(s), api.Program{Funcs: []api.Func{{Name: "f"}, {Name: "g", Params: params}}})
		}
	}
	for _, s := range names {
		p := api.Program{Funcs: []api.Func{{Name: s, Params: []string{s, s, s, s}}}}
		wantQuery(t, p, modelQuery(p))
	}
}

func wantSame(t *testing.T, title string, a, b api.Program, want bool) {
	t.Helper()
	if spell.Same(a, b) != want || spell.Same(b, a) != want {
		t.Errorf("Same of %s isn't %v both ways round", title, want)
	}
}

// base is a program, each time in lists of its own.
func base() api.Program {
	return api.Program{
		Funcs: []api.Func{
			{Name: "f", Params: []string{"a", "b"}, Body: op(api.Pipe, "", use("a"), number(15, 1))},
			{Name: "g", Body: named(api.Obj, []string{"k", "l"}, dot(), use("x"))},
		},
		Main: op(api.As, "x", field("a"), use("x")),
	}
}

// Promise 16.1: Same, field by field.
func TestSame(t *testing.T) {
	turns := []func(*api.Program){
		func(p *api.Program) { p.Funcs = p.Funcs[:1] },
		func(p *api.Program) { p.Funcs = p.Funcs[1:] },
		func(p *api.Program) { p.Funcs = nil },
		func(p *api.Program) { p.Funcs = append(p.Funcs, api.Func{}) },
		func(p *api.Program) { p.Funcs[0], p.Funcs[1] = p.Funcs[1], p.Funcs[0] },
		func(p *api.Program) { p.Funcs[0].Name = "g" },
		func(p *api.Program) { p.Funcs[1].Name = "" },
		func(p *api.Program) { p.Funcs[0].Params[1] = "c" },
		func(p *api.Program) { p.Funcs[0].Params = p.Funcs[0].Params[:1] },
		func(p *api.Program) { p.Funcs[0].Params = nil },
		func(p *api.Program) { p.Funcs[0].Params = []string{"b", "a"} },
		func(p *api.Program) { p.Funcs[1].Params = []string{"a"} },
		func(p *api.Program) { p.Funcs[1].Params = []string{""} },
		func(p *api.Program) { p.Funcs[0].Body.Subs[0].Text = "b" },
		func(p *api.Program) { p.Funcs[0].Body.Subs[1].Num.Coef = 16 },
		func(p *api.Program) { p.Funcs[0].Body.At = 1 },
		func(p *api.Program) { p.Funcs[1].Body.Names[0] = "m" },
		func(p *api.Program) { p.Funcs[1].Body = dot() },
		func(p *api.Program) { p.Main.Text = "y" },
		func(p *api.Program) { p.Main.Subs[1].Text = "y" },
		func(p *api.Program) { p.Main.Subs[0].Subs[0].Op = api.Empty },
		func(p *api.Program) { p.Main = dot() },
	}
	wantSame(t, "one and its copy", base(), base(), true)
	for i, turn := range turns {
		p, again := base(), base()
		turn(&p)
		turn(&again)
		wantSame(t, "one and another one, turn "+strconv.Itoa(i), base(), p, false)
		wantSame(t, "two that are turned alike, turn "+strconv.Itoa(i), p, again, true)
	}
	empty := base()
	empty.Funcs[1].Params = []string{}
	empty.Funcs[1].Body.Subs[0].Subs = []api.Expr{}
	wantSame(t, "one with empty lists", base(), empty, true)
	wantSame(t, "no functions", api.Program{}, api.Program{Funcs: []api.Func{}}, true)
	r := rand.New(rand.NewSource(162))
	for range 3000 {
		a, b := someProgram(r, 2, 3), someProgram(r, 2, 3)
		wantSame(t, "two", a, b, sameAnyway(a, b))
		wantSame(t, "one and itself", a, a, true)
	}
}

// Promise P1: all calls end, also of what may not be, and of what is long.
func TestEnds(t *testing.T) {
	shared := dot()
	for range 100 {
		shared = op(api.Pipe, "", shared, shared)
	}
	for title, e := range map[string]api.Expr{"what stands in itself": ring(), "what is deep": deep(1000000, dot()), "what is shared": shared, "what is wide": op(api.Call, "f", dots(1000000)...), "what has many keys": named(api.Obj, keys(600), dots(600)...)} {
		wantWrongExpr(t, title, e)
		wantWrong(t, title, api.Program{Main: e})
		body := api.Program{Funcs: []api.Func{{Name: "f", Body: e}}}
		wantWrong(t, title+" in a function", body)
		wantSame(t, title, body, body, true)
		wantSame(t, title, api.Program{Main: e}, api.Program{Main: dot()}, false)
	}
	wantWrong(t, "many functions", api.Program{Funcs: make([]api.Func, 1000000)})
	wantWrong(t, "many variables", api.Program{Funcs: []api.Func{{Name: "f", Params: make([]string, 1000000)}}})
	wantWrong(t, "a long name", api.Program{Funcs: []api.Func{{Name: strings.Repeat("a", 1<<20)}}})
	long := text(strings.Repeat("a", 1<<24))
	s, e := spell.Expr(deep(511, long))
	if e != api.OK || len(s) != 510*2+511*2+1<<24+2 {
		t.Errorf("a long one, deep down, has %d bytes: %d", len(s), e)
	}
}

// What is told once is told again, and what was handed in is as it was.
func TestToldAgain(t *testing.T) {
	p := base()
	first, _ := spell.Query(p)
	wantSame(t, "what was spelled", p, base(), true)
	wantQuery(t, p, first)
}
