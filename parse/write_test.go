package parse_test

import (
	"math/rand"
	"slices"
	"strings"

	"keyhole/api"
	"keyhole/lex"
	"keyhole/num"
	"keyhole/utf"
)

// What comes behind an expression that is written.
const (
	// closes is what no expression goes on with, as a bracket, or what is around goes on with.
	closes = iota
	// operates is a sign, or a word, with another side.
	operates
	// postfixes is a field, or an index.
	postfixes
)

// Strengths of rules: what is written by one stands, without brackets, where that or a weaker one is asked for.
const (
	pipes = iota
	commas
	alts
	ors
	ands
	cmps
	sums
	prods
	posts
	bares
	prims
)

// writer writes expressions as rows of tokens, with as few brackets as can be, and now and then some more.
type writer struct {
	r *rand.Rand
	// more is how often there are more brackets: once in so many times; 0: never.
	more int
	out  []string
}

func (w *writer) put(texts ...string) { w.out = append(w.out, texts...) }

func strength(e api.Expr) int {
	switch e.Op {
	case api.Pipe:
		return pipes
	case api.Comma:
		return commas
	case api.Bin:
		return signStrength(e.Text)
	case api.As:
		return posts
	case api.Index, api.Iter:
		return bares
	case api.Field:
		if e.Subs[0].Op != api.Dot {
			return bares
		}
	}
	return prims
}

func signStrength(s string) int {
	switch s {
	case "//":
		return alts
	case "or":
		return ors
	case "and":
		return ands
	case "+", "-":
		return sums
	case "*", "/", "%":
		return prods
	}
	return cmps
}

// expr writes an expression where a strength is asked for, and this comes behind it.
func (w *writer) expr(e api.Expr, asked, behind int) {
	open := (e.Op == api.As || e.Op == api.Label) && behind != closes || e.Op == api.Try && behind == postfixes
	if open || strength(e) < asked || w.more > 0 && w.r.Intn(w.more) == 0 {
		w.put("(")
		w.plain(e, closes)
		w.put(")")
		return
	}
	w.plain(e, behind)
}

// plain writes an expression without brackets around it.
func (w *writer) plain(e api.Expr, behind int) {
	switch e.Op {
	case api.Pipe:
		w.sides(e, "|", commas, pipes, behind)
	case api.Comma:
		w.sides(e, ",", commas, alts, behind)
	case api.Bin:
		w.bin(e, behind)
	case api.As:
		w.expr(e.Subs[0], bares, operates)
		w.put("as", "$"+e.Text, "|")
		w.expr(e.Subs[1], pipes, behind)
	case api.Field:
		if e.Subs[0].Op == api.Dot {
			w.put(".", w.key(e.Text, alone...))
			return
		}
		w.expr(e.Subs[0], bares, postfixes)
		w.put(".", w.key(e.Text))
	case api.Index:
		w.expr(e.Subs[0], bares, postfixes)
		w.bracketed("[", "]", e.Subs[1:])
	case api.Iter:
		w.expr(e.Subs[0], bares, postfixes)
		w.put("[", "]")
	case api.Try:
		w.put("try")
		w.expr(e.Subs[0], bares, closes)
		w.put("catch")
		w.expr(e.Subs[1], bares, behind)
	case api.Label:
		w.put("label", "$"+e.Text, "|")
		w.expr(e.Subs[0], pipes, behind)
	default:
		w.closed(e)
	}
}

// closed writes what has an end of its own.
func (w *writer) closed(e api.Expr) {
	switch e.Op {
	case api.Dot:
		w.put(".")
	case api.Lit:
		w.literal(e)
	case api.Var:
		w.put("$" + e.Text)
	case api.Empty:
		w.put("empty")
	case api.If:
		w.bracketed("if", "then", e.Subs[:1])
		w.bracketed("", "else", e.Subs[1:2])
		w.bracketed("", "end", e.Subs[2:])
	case api.Arr:
		w.bracketed("[", "]", e.Subs)
	case api.Obj:
		w.object(e)
	case api.Reduce, api.Foreach:
		w.put([]string{"reduce", "foreach"}[e.Op-api.Reduce])
		w.expr(e.Subs[0], bares, closes)
		w.put("as", "$"+e.Text)
		w.bracketed("(", ")", e.Subs[1:])
	case api.Call:
		w.put(e.Text)
		if len(e.Subs) > 0 {
			w.bracketed("(", ")", e.Subs)
		}
	case api.Break:
		w.put("break", "$"+e.Text)
	case api.Release:
		w.put("release")
		w.bracketed("(", ";", e.Subs)
		w.put(e.Names[0], ";", e.Names[1], ")")
	case api.Range:
		w.put("range")
		w.bracketed("(", ")", e.Subs)
	}
}

func (w *writer) sides(e api.Expr, sign string, left, right, behind int) {
	w.expr(e.Subs[0], left, operates)
	w.put(sign)
	w.expr(e.Subs[1], right, behind)
}

func (w *writer) bin(e api.Expr, behind int) {
	s := signStrength(e.Text)
	switch s {
	case alts:
		w.sides(e, e.Text, s+1, s, behind)
	case cmps:
		w.sides(e, e.Text, s+1, s+1, behind)
	default:
		w.sides(e, e.Text, s, s+1, behind)
	}
}

// bracketed writes parts, a ; between them, and what is around them.
func (w *writer) bracketed(begin, end string, parts []api.Expr) {
	if begin != "" {
		w.put(begin)
	}
	for i, p := range parts {
		if i > 0 {
			w.put(";")
		}
		w.expr(p, pipes, closes)
	}
	w.put(end)
}

func (w *writer) object(e api.Expr) {
	w.put("{")
	for i, p := range e.Subs {
		if i > 0 {
			w.put(",")
		}
		w.put(w.key(e.Names[i]), ":")
		w.expr(p, alts, closes)
	}
	w.put("}")
}

// key writes a text as a word, if it is one, and none of some, or as a string.
func (w *writer) key(s string, but ...string) string {
	if nameForm.MatchString(s) && !slices.Contains(but, s) && w.r.Intn(3) > 0 {
		return s
	}
	return quoted(s)
}

func quoted(s string) string {
	q, _ := utf.Quote(s)
	return q
}

func (w *writer) literal(e api.Expr) {
	switch e.Kind {
	case api.Number:
		s, below := strings.CutPrefix(num.Text(e.Num), "-")
		if below {
			w.put("-")
		}
		w.put(s)
	case api.String:
		w.put(quoted(e.Text))
	default:
		w.put([]string{"null", "false", "true"}[e.Kind])
	}
}

// program writes a program.
func (w *writer) program(p api.Program) {
	for _, f := range p.Funcs {
		w.put("def", f.Name)
		for i, v := range f.Params {
			w.put([]string{"(", ";"}[min(i, 1)], "$"+v)
		}
		if len(f.Params) > 0 {
			w.put(")")
		}
		w.put(":")
		w.expr(f.Body, pipes, closes)
		w.put(";")
	}
	w.expr(p.Main, pipes, closes)
}

// tight is texts of tokens with blanks only where they are needed.
func tight(texts []string) string {
	q := ""
	for i, s := range texts {
		if i > 0 && !apart(texts[i-1], s) {
			q += " "
		}
		q += s
	}
	return q
}

// apart tells whether two tokens are still two, one right behind the other.
func apart(a, b string) bool {
	l, _, e := lex.Tokens("0 " + a + b)
	return e == api.OK && len(l) == 4 && l[2].At == 2+len(a)
}

// some texts and the like, of which expressions are made.
var (
	names   = []string{"a", "b", "x", "f", "not", "length", "_", "Z9", "abcdefghijklmnop"}
	parties = []string{"low", "high", "bob", "if", "end", "a9", "abcdefghijklmnop"}
	texts   = []string{"", "a", "b", "c", "x", "if", "then", "as", "def", "true", "a b", "\u00e9\u20ac", "\x00\"\\", "abcdefghijklmnopq"}
	numbers = []api.Num{{}, {Coef: 1}, {Coef: -1}, {Coef: 15, Scale: 1}, {Coef: -25, Scale: 2}, {Coef: api.MaxCoef - 1}, {Coef: 1 - api.MaxCoef, Scale: api.MaxScale}}
	signs   = []string{"+", "-", "*", "/", "%", "==", "!=", "<", "<=", ">", ">=", "and", "or", "//"}
)

func one[T any](r *rand.Rand, l []T) T { return l[r.Intn(len(l))] }

// someExpr is an expression of at most so many parts, at least 1.
func someExpr(r *rand.Rand, most int) api.Expr {
	leaves := []int{api.Dot, api.Dot, api.Lit, api.Var, api.Empty, api.Break, api.Call, api.Arr, api.Obj}
	inner := []int{api.Field, api.Index, api.Iter, api.Pipe, api.Comma, api.If, api.Bin, api.Bin, api.Arr, api.Obj, api.Reduce, api.Foreach, api.Try, api.Call, api.As, api.As, api.Label, api.Release, api.Range}
	if most < 5 {
		return filled(r, one(r, leaves), 0, 1)
	}
	op := one(r, inner)
	least := map[int]int{api.Index: 2, api.Pipe: 2, api.Comma: 2, api.Bin: 2, api.Try: 2, api.As: 2, api.If: 3, api.Reduce: 3, api.Foreach: 3, api.Arr: 1, api.Field: 1, api.Iter: 1, api.Label: 1, api.Release: 1, api.Range: 1}
	n, ok := least[op]
	if !ok {
		n = r.Intn(5)
	}
	return filled(r, op, n, most)
}

// filled is an expression of an Op with so many parts, and at most so many in all.
func filled(r *rand.Rand, op, n, most int) api.Expr {
	e := api.Expr{Op: op}
	switch op {
	case api.Lit:
		e.Kind = r.Intn(5)
		if e.Kind == api.Number {
			e.Num = one(r, numbers)
		}
		if e.Kind == api.String {
			e.Text = one(r, texts)
		}
	case api.Var, api.Reduce, api.Foreach, api.Call, api.As, api.Label, api.Break:
		e.Text = one(r, names)
	case api.Field:
		e.Text = one(r, texts)
	case api.Bin:
		e.Text = one(r, signs)
	case api.Release:
		e.Names = []string{one(r, parties), one(r, parties)}
	case api.Obj:
		for _, i := range r.Perm(len(texts))[:n] {
			e.Names = append(e.Names, texts[i])
		}
	}
	for range n {
		e.Subs = append(e.Subs, someExpr(r, (most-1)/n))
	}
	return e
}

// someProgram is a program with at most so many functions, of parts of at most so many parts.
func someProgram(r *rand.Rand, funcs, most int) api.Program {
	p := api.Program{Main: someExpr(r, 1+r.Intn(most))}
	for range r.Intn(funcs + 1) {
		f := api.Func{Name: one(r, names), Body: someExpr(r, 1+r.Intn(most))}
		for range r.Intn(5) {
			f.Params = append(f.Params, one(r, names))
		}
		p.Funcs = append(p.Funcs, f)
	}
	return p
}
