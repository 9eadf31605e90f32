package spell_test

import (
	"math/rand"
	"strings"

	"keyhole/api"
	"keyhole/num"
	"keyhole/utf"
)

// forms are the texts of Ops that have as many parts each time: a, b, c behind a % are the parts, A, B, C the same wrapped, t the text, q the text quoted, n and m the names.
var forms = map[int]string{
	api.Dot: ".", api.Var: "$%t", api.Index: "%A[%b]", api.Iter: "%A[]", api.Pipe: "%A|%B", api.Comma: "%A,%B", api.Empty: "empty",
	api.If: "if %a then %b else %c end", api.Bin: "%A %t %B", api.Reduce: "reduce %A as $%t(%b;%c)", api.Foreach: "foreach %A as $%t(%b;%c)",
	api.Try: "try %A catch %B", api.As: "%A as $%t|%B", api.Label: "label $%t|%A", api.Break: "break $%t", api.Release: "release(%a;%n;%m)", api.Range: "range(%a)",
}

// modelExpr is an expression's text, by the chapter's words.
func modelExpr(e api.Expr) string {
	switch e.Op {
	case api.Lit:
		return modelValue(e)
	case api.Field:
		if e.Subs[0].Op == api.Dot {
			return filledIn(".%q", e)
		}
		return filledIn("%A.%q", e)
	case api.Arr:
		return "[" + modelList(e.Subs) + "]"
	case api.Call:
		if len(e.Subs) == 0 {
			return e.Text
		}
		return e.Text + "(" + modelList(e.Subs) + ")"
	case api.Obj:
		s := "{"
		for i, p := range e.Subs {
			s += quoted(e.Names[i]) + ":" + modelWrapped(p) + ","
		}
		return strings.TrimSuffix(s, ",") + "}"
	}
	return filledIn(forms[e.Op], e)
}

// filledIn is a form with what the letters behind a % stand for.
func filledIn(form string, e api.Expr) string {
	s := ""
	for i := 0; i < len(form); i++ {
		if form[i] != '%' {
			s += form[i : i+1]
			continue
		}
		i++
		switch c := form[i]; c {
		case 'a', 'b', 'c':
			s += modelExpr(e.Subs[c-'a'])
		case 'A', 'B', 'C':
			s += modelWrapped(e.Subs[c-'A'])
		case 't':
			s += e.Text
		case 'q':
			s += quoted(e.Text)
		case 'n':
			s += e.Names[0]
		case 'm':
			s += e.Names[1]
		}
	}
	return s
}

func modelList(parts []api.Expr) string {
	var l []string
	for _, p := range parts {
		l = append(l, modelExpr(p))
	}
	return strings.Join(l, ";")
}

func modelWrapped(e api.Expr) string {
	if e.Op == api.Dot || e.Op == api.Empty || e.Op == api.Var || e.Op == api.Lit {
		return modelExpr(e)
	}
	return "(" + modelExpr(e) + ")"
}

func modelValue(e api.Expr) string {
	switch s := num.Text(e.Num); {
	case e.Kind == api.String:
		return quoted(e.Text)
	case e.Kind < api.Number:
		return []string{"null", "false", "true"}[e.Kind]
	case s[0] == '-':
		return "(" + s + ")"
	default:
		return s
	}
}

func quoted(s string) string {
	q, _ := utf.Quote(s)
	return q
}

// modelQuery is a program's text.
func modelQuery(p api.Program) string {
	s := ""
	for _, f := range p.Funcs {
		s += "def " + f.Name
		if len(f.Params) > 0 {
			s += "($" + strings.Join(f.Params, ";$") + ")"
		}
		s += ":" + modelExpr(f.Body) + ";"
	}
	return s + modelExpr(p.Main)
}

// some texts and the like, of which expressions are made.
var (
	names   = []string{"a", "b", "x", "f", "not", "length", "_", "Z9", "abcdefghijklmnop"}
	parties = []string{"low", "high", "bob", "if", "end", "a9", "abcdefghijklmnop"}
	texts   = []string{"", "a", "b", "if", "then", "as", "true", "a b", "1", "#", "$x", "\u00e9\u20ac\U0001d11e", "\x00\"\\\n/\x7f", "abcdefghijklmnopq"}
	numbers = []api.Num{{}, {Coef: 1}, {Coef: -1}, {Coef: 15, Scale: 1}, {Coef: -25, Scale: 2}, {Coef: 1, Scale: 9}, {Coef: api.MaxCoef - 1}, {Coef: 1 - api.MaxCoef, Scale: api.MaxScale}}
	signs   = []string{"+", "-", "*", "/", "%", "==", "!=", "<", "<=", ">", ">=", "and", "or", "//"}
)

// counts are how many parts an Op has, where that is always as many.
var counts = map[int]int{api.Field: 1, api.Index: 2, api.Iter: 1, api.Pipe: 2, api.Comma: 2, api.If: 3, api.Bin: 2, api.Reduce: 3, api.Foreach: 3, api.Try: 2, api.As: 2, api.Label: 1, api.Release: 1, api.Range: 1}

func one[T any](r *rand.Rand, l []T) T { return l[r.Intn(len(l))] }

// someExpr is an expression of at most so many parts, at least 1.
func someExpr(r *rand.Rand, most int) api.Expr {
	leaves := []int{api.Dot, api.Lit, api.Lit, api.Var, api.Empty, api.Break, api.Call, api.Arr, api.Obj}
	inner := []int{api.Field, api.Field, api.Index, api.Iter, api.Pipe, api.Comma, api.If, api.Bin, api.Arr, api.Obj, api.Reduce, api.Foreach, api.Try, api.Call, api.As, api.Label, api.Release, api.Range}
	if most < 5 {
		return some(r, one(r, leaves), 0, 1)
	}
	op := one(r, inner)
	n, ok := counts[op]
	if !ok {
		n = r.Intn(map[int]int{api.Arr: 2, api.Call: 5, api.Obj: 5}[op])
	}
	return some(r, op, n, most)
}

// some is an expression of an Op with so many parts, and at most so many in all.
func some(r *rand.Rand, op, n, most int) api.Expr {
	e := api.Expr{Op: op}
	switch op {
	case api.Lit:
		e.Kind = r.Intn(5)
		if e.Kind == api.Number {
			e.Num = one(r, numbers)
		}
		if e.Kind == api.String {
			e.Text = one(r, texts)
		}
	case api.Var, api.Reduce, api.Foreach, api.Call, api.As, api.Label, api.Break:
		e.Text = one(r, names)
	case api.Field:
		e.Text = one(r, texts)
	case api.Bin:
		e.Text = one(r, signs)
	case api.Release:
		e.Names = []string{one(r, parties), one(r, parties)}
	case api.Obj:
		for _, i := range r.Perm(len(texts))[:n] {
			e.Names = append(e.Names, texts[i])
		}
	}
	for range n {
		e.Subs = append(e.Subs, someExpr(r, (most-1)/n))
	}
	return e
}

// someProgram is a program with at most so many functions, of parts of at most so many parts.
func someProgram(r *rand.Rand, funcs, most int) api.Program {
	p := api.Program{Main: someExpr(r, 1+r.Intn(most))}
	for range r.Intn(funcs + 1) {
		f := api.Func{Name: one(r, names), Body: someExpr(r, 1+r.Intn(most))}
		for range r.Intn(5) {
			f.Params = append(f.Params, one(r, names))
		}
		p.Funcs = append(p.Funcs, f)
	}
	return p
}
