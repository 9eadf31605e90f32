package parse_test

import (
	"slices"
	"strconv"
	"strings"
	"testing"

	"keyhole/api"
	"keyhole/lex"
	"keyhole/num"
	"keyhole/parse"
	"keyhole/tree"
)

// opNames are how Ops are shown that have no sign.
var opNames = map[int]string{
	api.Empty: "empty", api.Var: "$", api.Field: "Field", api.Index: "Index", api.Iter: "Iter", api.Pipe: "Pipe", api.Comma: "Comma", api.If: "If",
	api.Arr: "Arr", api.Obj: "Obj", api.Reduce: "Reduce$", api.Foreach: "Foreach$", api.Try: "Try", api.Call: "Call ", api.As: "As$",
	api.Label: "Label$", api.Break: "Break$", api.Release: "Release", api.Range: "Range",
}

// shown is an expression as a text, for lists and messages.
func shown(e api.Expr) string {
	switch e.Op {
	case api.Dot:
		return "."
	case api.Lit:
		return []string{"null", "false", "true", num.Text(e.Num), strconv.Quote(e.Text)}[e.Kind]
	case api.Bin:
		return e.Text + shownParts(e)
	case api.Field:
		return "Field " + strconv.Quote(e.Text) + shownParts(e)
	}
	return opNames[e.Op] + e.Text + shownParts(e)
}

func shownParts(e api.Expr) string {
	var parts []string
	for i, p := range e.Subs {
		name := ""
		if e.Op == api.Obj {
			name = strconv.Quote(e.Names[i]) + ":"
		}
		parts = append(parts, name+shown(p))
	}
	if e.Op == api.Release {
		parts = append(parts, e.Names...)
	}
	if len(parts) == 0 {
		return ""
	}
	return "(" + strings.Join(parts, ",") + ")"
}

func shownProgram(p api.Program) string {
	s := ""
	for _, f := range p.Funcs {
		s += f.Name + strings.Join(append([]string{""}, f.Params...), " $") + ":" + shown(f.Body) + "; "
	}
	return s + shown(p.Main)
}

// brief is a text's beginning, for a message.
func brief(s string) string { return s[:min(len(s), 300)] }

// wantMayBe holds promise 15.2 of a program that was parsed.
func wantMayBe(t *testing.T, q string, p api.Program) {
	t.Helper()
	right := len(p.Funcs) <= 32 && tree.Is(p.Main)
	for _, f := range p.Funcs {
		right = right && lex.Ident(f.Name) && len(f.Params) <= 4 && tree.Is(f.Body)
		for _, v := range f.Params {
			right = right && lex.Ident(v)
		}
	}
	if !right {
		t.Errorf("%q is parsed as what may not be: %s", brief(q), brief(shownProgram(p)))
	}
}

// wantQuery holds what Query answers of what is right.
func wantQuery(t *testing.T, q, want string) {
	t.Helper()
	p, at, e := parse.Query(q)
	if e != api.OK || at != 0 {
		t.Errorf("Query(%q) is wrong at %d: %d", brief(q), at, e)
		return
	}
	if got := shownProgram(p); got != want {
		t.Errorf("Query(%q) is %s, not %s", brief(q), brief(got), brief(want))
	}
	wantMayBe(t, q, p)
}

// wantBoth holds what Query and Expr answer of what is right, without any def.
func wantBoth(t *testing.T, q, want string) {
	t.Helper()
	wantQuery(t, q, want)
	x, at, e := parse.Expr(q)
	if e != api.OK || at != 0 || shown(x) != want {
		t.Errorf("Expr(%q) is %s, %d at %d, not %s", brief(q), brief(shown(x)), e, at, brief(want))
	}
}

// wantWrongQuery holds what Query answers of what is wrong.
func wantWrongQuery(t *testing.T, q string, at int, e api.Errno) {
	t.Helper()
	p, gat, ge := parse.Query(q)
	if gat != at || ge != e {
		t.Errorf("Query(%q) is wrong at %d: %d, not at %d: %d", brief(q), gat, ge, at, e)
	}
	if !samePrograms(p, api.Program{}) {
		t.Errorf("Query(%q) tells a program beside an error: %s", brief(q), brief(shownProgram(p)))
	}
}

// wantWrongExpr holds what Expr answers of what is wrong.
func wantWrongExpr(t *testing.T, q string, at int, e api.Errno) {
	t.Helper()
	x, gat, ge := parse.Expr(q)
	if gat != at || ge != e {
		t.Errorf("Expr(%q) is wrong at %d: %d, not at %d: %d", brief(q), gat, ge, at, e)
	}
	if !tree.Same(x, api.Expr{}) {
		t.Errorf("Expr(%q) tells an expression beside an error: %s", brief(q), brief(shown(x)))
	}
}

func wantWrong(t *testing.T, q string, at int, e api.Errno) {
	t.Helper()
	wantWrongQuery(t, q, at, e)
	wantWrongExpr(t, q, at, e)
}

// marked is a query without its one ^, and the place of that.
func marked(q string) (string, int) {
	ahead, behind, _ := strings.Cut(q, "^")
	return ahead + behind, len(ahead)
}

// right are queries without any def, and what they stand for.
var right = []struct{ q, want string }{
	// Things that have no parts.
	{".", "."}, {"empty", "empty"}, {"null", "null"}, {"false", "false"}, {"true", "true"}, {"$x", "$x"}, {"$Z_9", "$Z_9"}, {"break $x", "Break$x"},
	{"0", "0"}, {"7.50", "7.5"}, {"1e2", "100"}, {"-0", "0"}, {"-1", "-1"}, {"- 1", "-1"}, {"-0.25", "-0.25"}, {"-\n#\n999999999999999", "-999999999999999"}, {"-1e-9", "-0.000000001"},
	{`""`, `""`}, {`"a\u0000"`, `"a\x00"`}, {`"if"`, `"if"`}, {`"."`, `"."`}, {"\"h\u00e9\"", "\"h\u00e9\""}, {"[]", "Arr"}, {"{}", "Obj"}, {"f", "Call f"}, {"not", "Call not"}, {"abcdefghijklmnop", "Call abcdefghijklmnop"},

	// Fields: words, key words, and strings, behind a point that begins something, and behind something.
	{".a", `Field "a"(.)`}, {". a", `Field "a"(.)`}, {`."a"`, `Field "a"(.)`}, {`. "a b"`, `Field "a b"(.)`}, {`.""`, `Field ""(.)`}, {`."as"`, `Field "as"(.)`}, {`."end"`, `Field "end"(.)`},
	{".a.b", `Field "b"(Field "a"(.))`}, {".a.as", `Field "as"(Field "a"(.))`}, {`.a."b c"`, `Field "b c"(Field "a"(.))`}, {".a .b", `Field "b"(Field "a"(.))`},
	{".a.and.or.then.else.end.catch", `Field "catch"(Field "end"(Field "else"(Field "then"(Field "or"(Field "and"(Field "a"(.)))))))`},
	{"..a", `Field "a"(.)`}, {"..as", `Field "as"(.)`}, {`.."a"`, `Field "a"(.)`}, {"$x.a", `Field "a"($x)`}, {"1.a", `Field "a"(1)`}, {"1.5.a", `Field "a"(1.5)`}, {`"s".a`, `Field "a"("s")`}, {"f.a", `Field "a"(Call f)`}, {"-1.a", `Field "a"(-1)`},
	{"{}.a", `Field "a"(Obj)`}, {"[].a", `Field "a"(Arr)`}, {"null.if", `Field "if"(null)`}, {"empty.empty", `Field "empty"(empty)`}, {"break $x.a", `Field "a"(Break$x)`}, {"(.).a", `Field "a"(.)`},

	// A point alone, ahead of what is no word then.
	{". as $x|.", "As$x(.,.)"}, {".as $x|.", "As$x(.,.)"}, {".and .", "and(.,.)"}, {".or .", "or(.,.)"}, {"if .then .else .end", "If(.,.,.)"}, {"try .catch .", "Try(.,.)"},
	{"reduce .as $x(.;.)", "Reduce$x(.,.,.)"}, {".or.or.and.", "or(or(.,.),and(.,.))"},

	// Indexes.
	{".[]", "Iter(.)"}, {". [ ]", "Iter(.)"}, {".[1]", "Index(.,1)"}, {".[][]", "Iter(Iter(.))"}, {".[.[]]", "Index(.,Iter(.))"}, {".a[1].b[]", `Iter(Field "b"(Index(Field "a"(.),1)))`}, {".[1,2|3]", "Index(.,Pipe(Comma(1,2),3))"},
	{"[1][2]", "Index(Arr(1),2)"}, {"[][]", "Iter(Arr)"}, {"$x[0]", "Index($x,0)"}, {`"a"[0]`, `Index("a",0)`}, {".[. as $x|$x]", "Index(.,As$x(.,$x))"}, {"(.|.)[]", "Iter(Pipe(.,.))"},

	// Signs, from the left on, and | and // from the right on.
	{".a|.b,1", `Pipe(Field "a"(.),Comma(Field "b"(.),1))`}, {"1|2|3", "Pipe(1,Pipe(2,3))"}, {"(1|2)|3", "Pipe(Pipe(1,2),3)"}, {"1,2,3", "Comma(Comma(1,2),3)"}, {"1,(2,3)", "Comma(1,Comma(2,3))"},
	{"1//2//3", "//(1,//(2,3))"}, {"(1//2)//3", "//(//(1,2),3)"}, {"1 or 2 or 3", "or(or(1,2),3)"}, {"1 and 2 and 3", "and(and(1,2),3)"}, {"1+2-3", "-(+(1,2),3)"}, {"1-(2-3)", "-(1,-(2,3))"}, {"8/4%3*2", "*(%(/(8,4),3),2)"},
	{"1==2", "==(1,2)"}, {"1!=2", "!=(1,2)"}, {"1<2", "<(1,2)"}, {"1<=2", "<=(1,2)"}, {"1>2", ">(1,2)"}, {"1>=2", ">=(1,2)"}, {"(1==2)==3", "==(==(1,2),3)"}, {"1==(2==3)", "==(1,==(2,3))"},
	{"1-1", "-(1,1)"}, {"1 -1", "-(1,1)"}, {"1--1", "-(1,-1)"}, {"-1--1", "-(-1,-1)"}, {"-1*-2", "*(-1,-2)"},
	{"1|2,3//4 or 5 and 6==7+8*9", "Pipe(1,Comma(2,//(3,or(4,and(5,==(6,+(7,*(8,9))))))))"},
	{"1*2+3==4 and 5 or 6//7,8|9", "Pipe(Comma(//(or(and(==(+(*(1,2),3),4),5),6),7),8),9)"},
	{"1 or 2 and 3 or 4", "or(or(1,and(2,3)),4)"}, {"1==2 and 3<4", "and(==(1,2),<(3,4))"}, {"1+2<3-4", "<(+(1,2),-(3,4))"}, {"1*2/3+4%5", "+(/(*(1,2),3),%(4,5))"},
	{".a*.b.c[0]", `*(Field "a"(.),Index(Field "c"(Field "b"(.)),0))`},

	// What has an end of its own.
	{"(1)", "1"}, {"((.))", "."}, {"(1,2)", "Comma(1,2)"}, {"[1]", "Arr(1)"}, {"[1,2|3]", "Arr(Pipe(Comma(1,2),3))"}, {"[[]]", "Arr(Arr)"}, {"[{}]", "Arr(Obj)"},
	{"{a:1}", `Obj("a":1)`}, {`{"a":1}`, `Obj("a":1)`}, {"{b:1,a:2}", `Obj("b":1,"a":2)`}, {`{if:1,"":2,as:3,"\n":4}`, `Obj("if":1,"":2,"as":3,"\n":4)`}, {"{a:1//2}", `Obj("a"://(1,2))`}, {"{a:{a:1}}", `Obj("a":Obj("a":1))`}, {"{a:(1,2)}", `Obj("a":Comma(1,2))`},
	{"{a:.b,b:.a}", `Obj("a":Field "b"(.),"b":Field "a"(.))`}, {"{a:{b:1},b:{a:1}}", `Obj("a":Obj("b":1),"b":Obj("a":1))`}, {"{a:.,A:.}", `Obj("a":.,"A":.)`},
	{"if 1 then 2 else 3 end", "If(1,2,3)"}, {"if 1|2 then 3,4 else 5|6 end.a", `Field "a"(If(Pipe(1,2),Comma(3,4),Pipe(5,6)))`}, {"if if 1 then 2 else 3 end then 4 else 5 end", "If(If(1,2,3),4,5)"},
	{"try 1 catch 2", "Try(1,2)"}, {"try .a catch .b", `Try(Field "a"(.),Field "b"(.))`}, {"try 1 catch 2.a", `Try(1,Field "a"(2))`}, {"(try 1 catch 2).a", `Field "a"(Try(1,2))`}, {"try 1 catch 2+3", "+(Try(1,2),3)"}, {"try try 1 catch 2 catch 3", "Try(Try(1,2),3)"}, {"try 1 catch try 2 catch 3", "Try(1,Try(2,3))"},
	{"try (1+\"a\") catch .", `Try(+(1,"a"),.)`}, {"try 1 catch 2 as $x|3", "As$x(Try(1,2),3)"},
	{"reduce .[] as $x(0;.+$x)", "Reduce$x(Iter(.),0,+(.,$x))"}, {"foreach .[] as $x(0;.+$x)", "Foreach$x(Iter(.),0,+(.,$x))"}, {"reduce 1 as $x(2|3;4,5).a", `Field "a"(Reduce$x(1,Pipe(2,3),Comma(4,5)))`}, {"reduce foreach 1 as $x(2;3) as $y(4;5)", "Reduce$y(Foreach$x(1,2,3),4,5)"},
	{"range(1)", "Range(1)"}, {"range(1|2,3)[]", "Iter(Range(Pipe(1,Comma(2,3))))"}, {"release(.a;low;bob)", `Release(Field "a"(.),low,bob)`}, {"release(1,2;if;end)", "Release(Comma(1,2),if,end)"}, {"release(1;low;low).a", `Field "a"(Release(1,low,low))`}, {"release(1;a9;abcdefghijklmnop)", "Release(1,a9,abcdefghijklmnop)"},
	{"f(1)", "Call f(1)"}, {"f(1;2)", "Call f(1,2)"}, {"f(1;2;3)", "Call f(1,2,3)"}, {"f(1,2;3|4;5;6)", "Call f(Comma(1,2),Pipe(3,4),5,6)"}, {"f(g(1))", "Call f(Call g(1))"}, {"f (1)", "Call f(1)"}, {"f[1]", "Index(Call f,1)"}, {"f(1)[]", "Iter(Call f(1))"},

	// What goes on as far as it can.
	{". as $x|$x", "As$x(.,$x)"}, {". as $x|$x+$y", "As$x(.,+($x,$y))"}, {".a as $x|1,2|3", `As$x(Field "a"(.),Pipe(Comma(1,2),3))`}, {"1+. as $x|2+3", "+(1,As$x(.,+(2,3)))"}, {"1+2 as $x|3", "+(1,As$x(2,3))"}, {"1,2 as $x|3,4", "Comma(1,As$x(2,Comma(3,4)))"}, {"(1,2)as $x|3", "As$x(Comma(1,2),3)"},
	{"(. as $x|1),2", "Comma(As$x(.,1),2)"}, {"1 as $x|2 as $y|3", "As$x(1,As$y(2,3))"}, {"1|2 as $x|3|4", "Pipe(1,As$x(2,Pipe(3,4)))"},
	{"label $f|1,break $f", "Label$f(Comma(1,Break$f))"}, {"label $f|1|2", "Label$f(Pipe(1,2))"}, {"1+label $f|2+3", "+(1,Label$f(+(2,3)))"}, {"label $f|.a[0]", `Label$f(Index(Field "a"(.),0))`}, {"(label $f|1).a", `Field "a"(Label$f(1))`}, {"label $f|1 as $x|2", "Label$f(As$x(1,2))"}, {"label $f|label $g|1", "Label$f(Label$g(1))"},
	{"try label $f|1,2 catch 3", "Try(Label$f(Comma(1,2)),3)"}, {"try 1 catch label $f|2,3", "Try(1,Label$f(Comma(2,3)))"}, {"if label $f|1 then 2 as $x|3 else label $g|4 end", "If(Label$f(1),As$x(2,3),Label$g(4))"}, {"[label $f|1,2]", "Arr(Label$f(Comma(1,2)))"},

	// It goes on only as far as a query comes of it: what is around goes on behind it.
	{"1 as $x|2==3==4", "==(As$x(1,==(2,3)),4)"}, {"label $f|1<2<3", "<(Label$f(<(1,2)),3)"}, {"1==2 as $x|3==4", "==(1,As$x(2,==(3,4)))"}, {"1 as $x|2 as $y|3==4==5==6", "==(As$x(1,==(As$y(2,==(3,4)),5)),6)"},
	{"{a:. as $x|$x,b:2}", `Obj("a":As$x(.,$x),"b":2)`}, {"{a:label $f|1,b:2}", `Obj("a":Label$f(1),"b":2)`}, {"{a:. as $x|1,b}", `Obj("a":As$x(.,Comma(1,Call b)))`}, {"{a:. as $x|1,b,c:2}", `Obj("a":As$x(.,Comma(1,Call b)),"c":2)`}, {`{a:. as $x|1,"b"}`, `Obj("a":As$x(.,Comma(1,"b")))`},
	{`{a:. as $x|1,"then"}`, `Obj("a":As$x(.,Comma(1,"then")))`}, {`{a:. as $x|1,"def",b:2}`, `Obj("a":As$x(.,Comma(1,"def")),"b":2)`}, {`{a:. as $x|1,"b":2}`, `Obj("a":As$x(.,1),"b":2)`}, {"{a:. as $x|1,then:2}", `Obj("a":As$x(.,1),"then":2)`}, {"{a:. as $x|1,if:2}", `Obj("a":As$x(.,1),"if":2)`}, {"{a:. as $x|1,if 2 then 3 else 4 end}", `Obj("a":As$x(.,Comma(1,If(2,3,4))))`}, {"{a:. as $x|1,a}", `Obj("a":As$x(.,Comma(1,Call a)))`},
	{"{a:. as $x|1|2//3,b:4}", `Obj("a":As$x(.,Pipe(1,//(2,3))),"b":4)`}, {"{a:try 1 catch label $f|2,b:3}", `Obj("a":Try(1,Label$f(2)),"b":3)`}, {"{a:1+2 as $x|label $f|3,b:4}", `Obj("a":+(1,As$x(2,Label$f(3))),"b":4)`}, {"{a:{b:. as $x|1,c:2},d:3}", `Obj("a":Obj("b":As$x(.,1),"c":2),"d":3)`}, {"{a:. as $x|{b:1},c:2}", `Obj("a":As$x(.,Obj("b":1)),"c":2)`},
	{"{a:. as $x|[1,b],c:2}", `Obj("a":As$x(.,Arr(Comma(1,Call b))),"c":2)`}, {"{a:. as $x|f(1,b),c:2}", `Obj("a":As$x(.,Call f(Comma(1,Call b))),"c":2)`},
	{"reduce label $f|1 as $x(2;3)", "Reduce$x(Label$f(1),2,3)"}, {"reduce label $f|1 as $x|2 as $y(3;4)", "Reduce$y(Label$f(As$x(1,2)),3,4)"}, {"foreach label $f|1,2+3 as $x(4;5)", "Foreach$x(Label$f(Comma(1,+(2,3))),4,5)"}, {"reduce label $f|reduce label $g|1 as $x(2;3) as $y(4;5)", "Reduce$y(Label$f(Reduce$x(Label$g(1),2,3)),4,5)"},
	{"reduce try 1 catch label $f|2 as $x(3;4)", "Reduce$x(Try(1,Label$f(2)),3,4)"}, {"reduce label $f|1 as $x(2 as $y|3;label $g|4)", "Reduce$x(Label$f(1),As$y(2,3),Label$g(4))"}, {"{a:reduce label $f|1,b as $x(2;3),c:4}", `Obj("a":Reduce$x(Label$f(Comma(1,Call b)),2,3),"c":4)`},
	{"reduce label $f|{a:1 as $x|2,b:3} as $y(4;5)", `Reduce$y(Label$f(Obj("a":As$x(1,2),"b":3)),4,5)`},
}

// Promise 15.1: Query and Expr of what is right.
func TestRight(t *testing.T) {
	for _, x := range right {
		wantBoth(t, x.q, x.want)
		wantBoth(t, "("+x.q+")", x.want)
		wantBoth(t, "#\n\t"+x.q+" \r\n#", x.want)
		wantBoth(t, "["+x.q+"]", "Arr("+x.want+")")
		wantBoth(t, "("+x.q+")|("+x.q+")", "Pipe("+x.want+","+x.want+")")
		wantQuery(t, "def f($x):"+x.q+";"+x.q, "f $x:"+x.want+"; "+x.want)
	}
}

// Promise 15.1: the words behind a point that begins something, and behind one that doesn't.
func TestWordsBehindAPoint(t *testing.T) {
	for _, k := range append([]string{"a", "not", "_", "Z9", "abcdefghijklmnop"}, keyWords...) {
		field := "Field " + strconv.Quote(k)
		wantBoth(t, ".."+k, field+"(.)")
		wantBoth(t, "$x."+k, field+"($x)")
		wantBoth(t, `."`+k+`"`, field+"(.)")
		wantBoth(t, "{"+k+":1}", "Obj("+strconv.Quote(k)+":1)")
		if !slices.Contains(alone, k) {
			wantBoth(t, "."+k, field+"(.)")
			wantBoth(t, ". # \n"+k+"."+k, field+"("+field+"(.))")
		}
	}
	for _, k := range []string{"then", "else", "end", "catch"} {
		wantWrong(t, "."+k, 1, api.ErrSyntax)
		wantWrong(t, ".a."+k+" .", len(k)+5, api.ErrSyntax)
		wantWrong(t, ".a "+k, 3, api.ErrSyntax)
	}
	for _, k := range []string{"and", "or", "as"} {
		wantWrong(t, "."+k, 1+len(k), api.ErrSyntax)
		wantWrong(t, "."+k+" "+k, 2+len(k), api.ErrSyntax)
	}
}

// programs are queries with defs, and what they stand for.
var programs = []struct{ q, want string }{
	{"def f:.;f", "f:.; Call f"},
	{"def f($x):$x;f(1)", "f $x:$x; Call f(1)"},
	{"def f($a;$b):1;def g($a;$b;$c):2;def h($a;$b;$c;$d):3;.", "f $a $b:1; g $a $b $c:2; h $a $b $c $d:3; ."},
	{"def f:1|2,3;def f:f;4|5", "f:Pipe(1,Comma(2,3)); f:Call f; Pipe(4,5)"},
	{"def f($x;$x):.;.", "f $x $x:.; ."},
	{"def f:. as $x|1;2 as $y|3", "f:As$x(.,1); As$y(2,3)"},
	{"def f:label $f|1;label $f|2", "f:Label$f(1); Label$f(2)"},
	{"def f : if type == \"array\" then (., (.[] | f)) else . end; f", `f:If(==(Call type,"array"),Comma(.,Pipe(Iter(.),Call f)),.); Call f`},
	{"def abcdefghijklmnop($abcdefghijklmnop):.def;.def", `abcdefghijklmnop $abcdefghijklmnop:Field "def"(.); Field "def"(.)`},
	{"def f:.;def g:{def:.};{def:f}", `f:.; g:Obj("def":.); Obj("def":Call f)`},
}

// Promise 15.1: Query of what has defs; to Expr a def is a token that is wrong.
func TestPrograms(t *testing.T) {
	for _, x := range programs {
		wantQuery(t, x.q, x.want)
		wantQuery(t, " \n# def\n"+x.q+"\n", x.want)
		wantWrongExpr(t, x.q, 0, api.ErrSyntax)
		wantWrongExpr(t, " \n# def\n"+x.q, 8, api.ErrSyntax)
	}
}

// wrong are queries with a ^ ahead of the first token that is wrong.
var wrong = []struct {
	q string
	e api.Errno
}{
	// Nothing begins with it.
	{"^", api.ErrSyntax}, {" \n# a\n^", api.ErrSyntax}, {"^)", api.ErrSyntax}, {"^]", api.ErrSyntax}, {"^}", api.ErrSyntax}, {"^:", api.ErrSyntax}, {"^;", api.ErrSyntax}, {"^|", api.ErrSyntax}, {"^,", api.ErrSyntax}, {"^+1", api.ErrSyntax}, {"^*", api.ErrSyntax}, {"^/", api.ErrSyntax}, {"^//1", api.ErrSyntax}, {"^==", api.ErrSyntax}, {"^<", api.ErrSyntax},
	{"^then", api.ErrSyntax}, {"^else", api.ErrSyntax}, {"^end", api.ErrSyntax}, {"^catch .", api.ErrSyntax}, {"^as $x|.", api.ErrSyntax}, {"^and .", api.ErrSyntax}, {"^or .", api.ErrSyntax}, {"^$if", api.ErrSyntax}, {"^$range", api.ErrSyntax}, {"1|^", api.ErrSyntax}, {"1|^|2", api.ErrSyntax}, {"1,^", api.ErrSyntax}, {"1,^)", api.ErrSyntax}, {"1+^", api.ErrSyntax}, {"1+^+2", api.ErrSyntax}, {"1 and^", api.ErrSyntax}, {"1 or ^or", api.ErrSyntax}, {"1//^//2", api.ErrSyntax}, {"1==^==", api.ErrSyntax},

	// It doesn't go on with it.
	{"1 ^2", api.ErrSyntax}, {".a ^b", api.ErrSyntax}, {"f ^f", api.ErrSyntax}, {`"a" ^"b"`, api.ErrSyntax}, {"$x ^$y", api.ErrSyntax}, {"1^)", api.ErrSyntax}, {"1^]", api.ErrSyntax}, {"1^}", api.ErrSyntax}, {"1^;", api.ErrSyntax}, {"1^:2", api.ErrSyntax}, {"1 ^then", api.ErrSyntax}, {"1 ^end", api.ErrSyntax}, {"1 ^catch 2", api.ErrSyntax}, {"1 ^not", api.ErrSyntax}, {"1 ^if", api.ErrSyntax}, {"$x^(1)", api.ErrSyntax}, {"1^(2)", api.ErrSyntax}, {"1^{}", api.ErrSyntax},
	{"1==2^==3", api.ErrSyntax}, {"1<2 ^>= 3", api.ErrSyntax}, {"1!=2+3^!=4", api.ErrSyntax}, {"(1==2^==3)", api.ErrSyntax}, {"1 as $x|2==3==4^==5", api.ErrSyntax},

	// Points, and minuses.
	{".^5", api.ErrSyntax}, {"..^", api.ErrSyntax}, {". .^", api.ErrSyntax}, {"..^.", api.ErrSyntax}, {"..^5", api.ErrSyntax}, {".a.^", api.ErrSyntax}, {".a.^.", api.ErrSyntax}, {".a.^[", api.ErrSyntax}, {".a.^$x", api.ErrSyntax}, {".^$x", api.ErrSyntax}, {"1.^", api.ErrSyntax}, {".^(1)", api.ErrSyntax},
	{"-^", api.ErrSyntax}, {"-^-1", api.ErrSyntax}, {"-^(1)", api.ErrSyntax}, {"-^.", api.ErrSyntax}, {"-^$x", api.ErrSyntax}, {"-^f", api.ErrSyntax}, {`-^"1"`, api.ErrSyntax}, {"1--^-1", api.ErrSyntax}, {"1-^", api.ErrSyntax},

	// Brackets.
	{"(^", api.ErrSyntax}, {"(^)", api.ErrSyntax}, {"(1^", api.ErrSyntax}, {"(1^]", api.ErrSyntax}, {"(1^;2)", api.ErrSyntax}, {"[^", api.ErrSyntax}, {"[1^", api.ErrSyntax}, {"[1,^]", api.ErrSyntax}, {"[1^)", api.ErrSyntax}, {"[^,]", api.ErrSyntax}, {".[^", api.ErrSyntax}, {".[1^", api.ErrSyntax}, {".[1^;2]", api.ErrSyntax}, {".[1^:2]", api.ErrSyntax}, {".[^:2]", api.ErrSyntax},
	{"{^", api.ErrSyntax}, {"{^,}", api.ErrSyntax}, {"{a^}", api.ErrSyntax}, {"{a^,b}", api.ErrSyntax}, {"{a:^}", api.ErrSyntax}, {"{a:1^", api.ErrSyntax}, {"{a:1^]", api.ErrSyntax}, {"{a:1,^}", api.ErrSyntax}, {"{a:1,^", api.ErrSyntax}, {"{a:1^|2}", api.ErrSyntax}, {"{a:1^;b:2}", api.ErrSyntax}, {"{^$x:1}", api.ErrSyntax}, {"{^1:1}", api.ErrSyntax}, {"{^(\"a\"):1}", api.ErrSyntax}, {"{^.a:1}", api.ErrSyntax}, {"{a:1,^2}", api.ErrSyntax}, {"{a:1,b^}", api.ErrSyntax}, {`{"a"^}`, api.ErrSyntax}, {"{if ^1:2}", api.ErrSyntax}, {"{a:1 ^b:2}", api.ErrSyntax},

	// Key words.
	{"if^", api.ErrSyntax}, {"if 1^", api.ErrSyntax}, {"if 1 ^else", api.ErrSyntax}, {"if ^then", api.ErrSyntax}, {"if 1 then ^else", api.ErrSyntax}, {"if 1 then 2 ^end", api.ErrSyntax}, {"if 1 then 2 else 3^", api.ErrSyntax}, {"if 1 then 2 else ^end", api.ErrSyntax}, {"if 1 then 2 else 3 ^then", api.ErrSyntax}, {"if 1^;", api.ErrSyntax},
	{"try^", api.ErrSyntax}, {"try 1^", api.ErrSyntax}, {"try 1^+2 catch 3", api.ErrSyntax}, {"try 1^|2 catch 3", api.ErrSyntax}, {"try 1 ^as $x|2 catch 3", api.ErrSyntax}, {"try 1 catch^", api.ErrSyntax}, {"try 1 catch ^catch 2", api.ErrSyntax}, {"try 1 catch 2 ^catch 3", api.ErrSyntax}, {"try ^catch 1", api.ErrSyntax},
	{"reduce^", api.ErrSyntax}, {"reduce 1^", api.ErrSyntax}, {"reduce 1^(2;3)", api.ErrSyntax}, {"reduce 1 as^", api.ErrSyntax}, {"reduce 1 as ^x(2;3)", api.ErrSyntax}, {"reduce 1 as ^$if(2;3)", api.ErrSyntax}, {"reduce 1 as $x^", api.ErrSyntax}, {"reduce 1 as $x^|2", api.ErrSyntax}, {"reduce 1 as $x(^;", api.ErrSyntax}, {"reduce 1 as $x(2^)", api.ErrSyntax}, {"reduce 1 as $x(2;^)", api.ErrSyntax}, {"reduce 1 as $x(2;3^;4)", api.ErrSyntax}, {"reduce 1 as $x(2;3^", api.ErrSyntax},
	{"foreach 1^+1 as $x(2;3)", api.ErrSyntax}, {"foreach 1 as $x(2;3^;4)", api.ErrSyntax}, {"foreach 1 as $x(2^)", api.ErrSyntax},
	{"1 as^", api.ErrSyntax}, {"1 as ^x|2", api.ErrSyntax}, {"1 as ^$and|2", api.ErrSyntax}, {"1 as $x^", api.ErrSyntax}, {"1 as $x^,2", api.ErrSyntax}, {"1 as $x^(2;3)", api.ErrSyntax}, {"1 as $x|^", api.ErrSyntax}, {"1 as $x ^as $y|2", api.ErrSyntax},
	{"label^", api.ErrSyntax}, {"label ^f|1", api.ErrSyntax}, {"label ^$def|1", api.ErrSyntax}, {"label $f^", api.ErrSyntax}, {"label $f^;1", api.ErrSyntax}, {"label $f|^", api.ErrSyntax}, {"break^", api.ErrSyntax}, {"break ^f", api.ErrSyntax}, {"break ^$try", api.ErrSyntax}, {"break $f ^$g", api.ErrSyntax},
	{"range^", api.ErrSyntax}, {"range ^1", api.ErrSyntax}, {"range(^)", api.ErrSyntax}, {"range(1^", api.ErrSyntax}, {"range(1^;2)", api.ErrSyntax}, {"range^[1]", api.ErrSyntax}, {"empty^(1)", api.ErrSyntax}, {"true^(1)", api.ErrSyntax}, {"null ^null", api.ErrSyntax},
	{"release^", api.ErrSyntax}, {"release^.", api.ErrSyntax}, {"release(^;low;bob)", api.ErrSyntax}, {"release(1^)", api.ErrSyntax}, {"release(1,^)", api.ErrSyntax}, {"release(1;^)", api.ErrSyntax}, {"release(1;low^)", api.ErrSyntax}, {"release(1;low;^)", api.ErrSyntax}, {"release(1;low;bob^", api.ErrSyntax}, {"release(1;low;bob^;ann)", api.ErrSyntax},
	{"release(1;^Low;bob)", api.ErrSyntax}, {"release(1;low;^Bob)", api.ErrSyntax}, {"release(1;^l_w;bob)", api.ErrSyntax}, {"release(1;low;^_)", api.ErrSyntax}, {`release(1;^"low";bob)`, api.ErrSyntax}, {"release(1;low;^$bob)", api.ErrSyntax}, {"release(1;^1;bob)", api.ErrSyntax}, {"release(1;^.low;bob)", api.ErrSyntax}, {"release(1;low^,bob)", api.ErrSyntax},
	{"f(^)", api.ErrSyntax}, {"f(^;1)", api.ErrSyntax}, {"f(1^", api.ErrSyntax}, {"f(1;^)", api.ErrSyntax}, {"f(1;2;3;4^;5)", api.ErrSyntax}, {"f(1;2;3;4^;", api.ErrSyntax}, {"f(1;2;3;4^", api.ErrSyntax}, {"f(1)^(2)", api.ErrSyntax}, {"f(1 ^2)", api.ErrSyntax},

	// What goes on as far as a query comes of it.
	{"{a:. as $x|1,b^", api.ErrSyntax}, {"{a:. as $x|1,b ^5", api.ErrSyntax}, {"{a:. as $x|1,then^}", api.ErrSyntax}, {"{a:. as $x|1,then ^5", api.ErrSyntax}, {"{a:. as $x|1,if^}", api.ErrSyntax}, {"{a:. as $x|1,as ^$x|2}", api.ErrSyntax}, {"{a:. as $x|1,^)}", api.ErrSyntax}, {"{a:. as $x|1,5^:2}", api.ErrSyntax}, {"{a:. as $x|1,b.c^:2}", api.ErrSyntax}, {"{a:. as $x|1,b:^}", api.ErrSyntax}, {"{a:. as $x|1,b:2^|3}", api.ErrSyntax}, {"{a:. as $x|1,def ^f:.;.}", api.ErrSyntax},
	{"[. as $x|1,b^:2]", api.ErrSyntax}, {"{a:(. as $x|1,b^:2)}", api.ErrSyntax}, {"{a:[. as $x|1,^then:2]}", api.ErrSyntax}, {"{a:if . as $x|1,b^:2", api.ErrSyntax}, {"{a:try label $f|1,b^:2", api.ErrSyntax}, {"{a:reduce label $f|1,b^:2", api.ErrSyntax}, {"{a:f(. as $x|1,b^:2)}", api.ErrSyntax}, {"{a:.[. as $x|1,b^:2]}", api.ErrSyntax}, {"{a:range(. as $x|1,b^:2)}", api.ErrSyntax}, {"{a:release(. as $x|1,b^:2", api.ErrSyntax}, {"{a:reduce 1 as $x(. as $x|1,b^:2", api.ErrSyntax}, {"{a:1}|. as $x|1,b^:2", api.ErrSyntax},
	{"reduce label $f|1 as $x^", api.ErrSyntax}, {"reduce label $f|1 as $x ^5", api.ErrSyntax}, {"reduce label $f|1 as ^x", api.ErrSyntax}, {"reduce label $f|1 as $x|2^", api.ErrSyntax}, {"reduce label $f|1 as $x|2 as $y(3;4) as $z^", api.ErrSyntax}, {"reduce label $f|1 as $x(2;3) as $y^(4;5)", api.ErrSyntax}, {"reduce(label $f|1 as $x^(2;3))", api.ErrSyntax}, {"reduce try label $f|1 as $x^(2;3)", api.ErrSyntax}, {"reduce label $f|[1 as $x^(2;3)]", api.ErrSyntax}, {"reduce label $f|{a:1 as $x^(2;3)}", api.ErrSyntax}, {"reduce label $f|if 1 as $x^(2;3)", api.ErrSyntax}, {"reduce label $f|f(1 as $x^(2;3))", api.ErrSyntax}, {"reduce 1 as $x(2 as $y^(3;4)", api.ErrSyntax},

	// Keys that are there already.
	{"{a:1,^a:2}", api.ErrTwice}, {`{a:1,^"a":2}`, api.ErrTwice}, {`{"a":1,^a:2}`, api.ErrTwice}, {`{"a":1,^"\u0061":2}`, api.ErrTwice}, {`{"":1,b:2,^"":3}`, api.ErrTwice}, {"{if:1,^if:2}", api.ErrTwice}, {"{a:1,b:2,^a:3,b:4}", api.ErrTwice}, {"{a:1,^a}", api.ErrTwice}, {"{a:1,^a", api.ErrTwice}, {"{a:1,^a)", api.ErrTwice}, {"{a:1,^a:)", api.ErrTwice}, {"{a:1,b:{c:1,^c:2}}", api.ErrTwice}, {"{a:1,b:{a:1},^a:2}", api.ErrTwice}, {"[{a:1,^a:2}", api.ErrTwice}, {"{a:{b:1,^b:2},a:3}", api.ErrTwice},
	{"{a:. as $x|1,^a:2}", api.ErrTwice}, {"{a:. as $x|1,^a:", api.ErrTwice}, {"{a:. as $x|1,a ^5", api.ErrSyntax}, {"{a:. as $x|1,a^", api.ErrSyntax}, {"{then:. as $x|1,^then:2}", api.ErrTwice}, {"{then:. as $x|1,^then 5", api.ErrTwice}, {"{a:. as $x|1,b:2,^b:3}", api.ErrTwice}, {`{then:. as $x|1,"then" ^5`, api.ErrSyntax}, {`{then:. as $x|1,^"then":5`, api.ErrTwice}, {`{a:. as $x|1,^"a":2}`, api.ErrTwice},
	{"{a:1,^a:2}|)", api.ErrTwice}, {"1 ^2|{a:1,a:2}", api.ErrSyntax}, {"{a:1 ^2,a:3}", api.ErrSyntax},
}

// Promise 15.1: Query and Expr of what is wrong.
func TestWrong(t *testing.T) {
	for _, x := range wrong {
		q, at := marked(x.q)
		wantWrong(t, q, at, x.e)
		wantWrong(t, "#\n . |"+q, at+6, x.e)
		wantWrongQuery(t, "def f:1;"+q, at+8, x.e)
		wantWrongExpr(t, "def f:1;"+q, 0, api.ErrSyntax)
		if at < len(q) {
			// What stands behind it turns nothing.
			wantWrong(t, q+" }|def)", at, x.e)
		}
		if at < len(q) && q[at] != ';' {
			wantWrongQuery(t, "def f:"+q, at+6, x.e)
		}
	}
}

// wrongPrograms are queries with defs, with a ^ ahead of the first token that is wrong.
var wrongPrograms = []string{
	"def^", "def ^$f:.;.", "def ^if:.;.", "def ^def:.;.", "def ^\"f\":.;.", "def ^1:.;.", "def ^(", "def f^", "def f^.", "def f^;", "def f ^g:.;.", "def f:^", "def f:^;.", "def f:1^", "def f:1^)", "def f:1^:", "def f:1 ^2;.", "def f:1;^", "def f:1;^;", "def f:1;2^;", "def f:1;2 ^def",
	"def f(^):.;.", "def f(^x):.;.", "def f(^$if):.;.", "def f(^1):.;.", "def f(^:.;.", "def f($x^,$y):.;.", "def f($x ^$y):.;.", "def f($x;^):.;.", "def f($x;^;$y):.;.", "def f($a;$b;$c;$d^;$e):.;.", "def f($a;$b;$c;$d^;", "def f($x)^.;.", "def f($x)^($y):.;.", "def f($x^",
	".|^def f:.;.", "1 ^def f:.;.", "(^def f:.;.)", "def f:^def g:.;g;f", "def f:1;def^", "def f:1;def g^;", "def f:1;[^def g:1;2]", "def f:1|^def", "def f:1;2|^def g:.;.",
}

// Promise 15.1: Query of defs that are wrong.
func TestWrongPrograms(t *testing.T) {
	for _, x := range wrongPrograms {
		q, at := marked(x)
		wantWrongQuery(t, q, at, api.ErrSyntax)
		wantWrongQuery(t, "def g($x):[$x];"+q, at+15, api.ErrSyntax)
	}
}

// Promise 15.1: what is wrong with tokens is told ahead of all else.
func TestWrongTokens(t *testing.T) {
	for _, x := range []struct {
		q string
		e api.Errno
	}{
		{"^?", api.ErrSyntax}, {") ^?", api.ErrSyntax}, {"1 2 ^$", api.ErrSyntax}, {"1 2 ^abcdefghijklmnopq", api.ErrSyntax}, {"1 2 ^\"", api.ErrSyntax}, {"1 2 ^=", api.ErrSyntax}, {"1 2 ^\"\xff\"", api.ErrUtf}, {`1 2 ^"\ud834"`, api.ErrUtf}, {"1 2 ^007", api.ErrForm}, {"1 2 ^1e-10", api.ErrNum}, {"1 2 ^1e15", api.ErrNum}, {"-^1e15", api.ErrNum},
		{"{a:1,a:2}^'", api.ErrSyntax}, {"{a:1,a:2} ^007", api.ErrForm}, {"def def ^1e-10", api.ErrNum}, {strings.Repeat("def f:.;", 40) + "^00", api.ErrForm}, {strings.Repeat(".,", 600) + "^&", api.ErrSyntax}, {"^01 02", api.ErrForm},
	} {
		q, at := marked(x.q)
		wantWrong(t, q, at, x.e)
	}
	for _, s := range []string{".", " ", "(", "?", "\xff", "1 ", "def f:.;"} {
		long := strings.Repeat(s, api.MaxQuery+1)[:api.MaxQuery+1]
		wantWrong(t, long, 0, api.ErrLong)
	}
	wantWrong(t, "."+strings.Repeat(" ", api.MaxQuery), 0, api.ErrLong)
	wantBoth(t, "."+strings.Repeat(" ", api.MaxQuery-1), ".")
	wantBoth(t, strings.Repeat(" ", api.MaxQuery-1)+".", ".")
	wantWrong(t, strings.Repeat(" ", api.MaxQuery), api.MaxQuery, api.ErrSyntax)
}

// iters is so many parts, from a first token on.
func iters(n int) string { return "." + strings.Repeat("[]", n-1) }

// dots is so many parts, an odd number, in rows.
func dots(n int) string { return strings.Repeat(".,", n/2) + "." }

// Promise 15.1: parts of up to, and of more than 512 parts.
func TestTooLarge(t *testing.T) {
	for _, x := range []struct{ right, wrong string }{
		{iters(512), iters(513)}, {dots(511), dots(513)}, {"[" + dots(511) + "]", "[" + dots(511) + "][]"}, {"((" + iters(512) + "))", "((" + iters(513) + "))"}, {"-1" + iters(512)[1:], "-1" + iters(513)[1:]}, {".a" + iters(511)[1:], ".a" + iters(512)[1:]},
		{strings.Repeat(".|", 255) + ".[]", strings.Repeat(".|", 256) + "."}, {strings.Repeat(".//", 255) + "(.[])", strings.Repeat(".//", 256) + "."}, {"f(" + iters(511) + ")", "f(" + iters(511) + ";1)"}, {"{a:" + iters(511) + "}", "{a:" + iters(511) + ",b:1}"}, {"label $f|" + iters(511), "label $f|" + iters(512)},
		{"1 as $x|" + iters(510), "1 as $x|" + iters(511)}, {"if " + iters(509) + " then 1 else 2 end", "if " + iters(510) + " then 1 else 2 end"}, {strings.Repeat(" ", 2000) + iters(512), strings.Repeat(" ", 2000) + iters(513)},
	} {
		at := len(x.wrong) - len(strings.TrimLeft(x.wrong, " "))
		for _, call := range []string{"Query", "Expr"} {
			if e := errnoOf(call, x.right); e != api.OK {
				t.Errorf("%s(%q) is wrong: %d", call, brief(x.right), e)
			}
		}
		wantWrong(t, x.wrong, at, api.ErrMany)
		for _, head := range []string{"def f:", "def f($x): # a\n", "def g:.[];def f($x;$y):"} {
			if e := errnoOf("Query", head+x.right+";."); e != api.OK {
				t.Errorf("Query(%q) is wrong: %d", brief(head+x.right+";."), e)
			}
			wantWrongQuery(t, head+x.wrong+";.", len(head)+at, api.ErrMany)
		}
		wantWrongQuery(t, "def f:.;"+x.wrong, 8+at, api.ErrMany)
	}
	// Each part is counted alone.
	q := "def f:" + iters(512) + ";def g:" + iters(512) + ";" + iters(512)
	if e := errnoOf("Query", q); e != api.OK {
		t.Errorf("three parts that aren't too large are wrong: %d", e)
	}
}

func errnoOf(call, q string) api.Errno {
	if call == "Expr" {
		_, _, e := parse.Expr(q)
		return e
	}
	_, _, e := parse.Query(q)
	return e
}

// Promise 15.1: what is wrong within a part that is too large is told ahead of that; of parts, and of what is behind them, what is first.
func TestTooLargeAndWrong(t *testing.T) {
	big := iters(513)
	for _, x := range []struct {
		q string
		e api.Errno
	}{
		{"[" + big + ",^]", api.ErrSyntax}, {"(" + big + "^", api.ErrSyntax}, {big + "|^", api.ErrSyntax}, {big + "|{a:1,^a:2}", api.ErrTwice}, {"{a:" + big + ",^a:2}", api.ErrTwice}, {big + ".^5", api.ErrSyntax}, {big + "[^", api.ErrSyntax}, {"[^)" + big, api.ErrSyntax}, {big + " as $x|^)", api.ErrSyntax}, {"{a:1,^a:" + big + "}", api.ErrTwice},
		// Behind a part is not within it.
		{"^" + big + " 5", api.ErrMany}, {"^" + big + ")", api.ErrMany}, {"(^)" + big, api.ErrSyntax}, {"^" + big + ";", api.ErrMany},
	} {
		q, at := marked(x.q)
		wantWrong(t, q, at, x.e)
		wantWrongQuery(t, "def f:"+q, at+6, x.e)
		wantWrongQuery(t, "def f:"+q+";"+big, at+6, x.e)
		wantWrongQuery(t, "def g:"+big+";def f:"+q, 6, api.ErrMany)
	}
	for _, q := range []string{"def f:^" + big + ";)", "def f:^" + big + ";", "def f:^" + big + ";def", "def f:^" + big + ";def g:" + big + ";" + big, "def f:.;def g:^" + big + ";{a:1,a:2}"} {
		q, at := marked(q)
		wantWrongQuery(t, q, at, api.ErrMany)
	}
}

// Promise 15.1: up to 32 defs, and more.
func TestManyDefs(t *testing.T) {
	for _, def := range []string{"def f:.;", "def f($x;$y):{a:1};", " def f:1|2; "} {
		for _, n := range []int{0, 1, 2, 31, 32} {
			p, _, e := parse.Query(strings.Repeat(def, n) + ".")
			if e != api.OK || len(p.Funcs) != n {
				t.Errorf("a query with %d defs is wrong, %d, or has %d", n, e, len(p.Funcs))
			}
			wantMayBe(t, "many defs", p)
		}
		at := len(def)*32 + strings.Index(def, "def")
		for _, behind := range []string{def + ".", def, "def", "def)", "def def", strings.Repeat(def, 5) + ".", def + ")", "def f:" + iters(513) + ";.", "def f:{a:1,a:2};.", def + iters(513)} {
			behind = strings.TrimLeft(behind, " ")
			wantWrongQuery(t, strings.Repeat(def, 32)+strings.Repeat(" ", strings.Index(def, "def"))+behind, at, api.ErrMany)
		}
		wantWrongQuery(t, strings.Repeat(def, 32), len(def)*32, api.ErrSyntax)
		wantWrongQuery(t, strings.Repeat(def, 32)+")"+def, len(def)*32, api.ErrSyntax)
		wantWrongQuery(t, strings.Repeat(def, 31)+"def f:1)"+strings.Repeat(def, 3), len(def)*31+7, api.ErrSyntax)
		wantWrongQuery(t, strings.Repeat(def, 20)+"def f:"+iters(513)+";"+strings.Repeat(def, 20)+".", len(def)*20+6, api.ErrMany)
		wantWrongExpr(t, strings.Repeat(def, 33)+".", strings.Index(def, "def"), api.ErrSyntax)
	}
}
