package tree_test

import (
	"math/rand"
	"regexp"
	"slices"
	"strconv"
	"unicode/utf8"

	"keyhole/api"
)

// The model says by the chapter's words what each call answers, of expressions that are neither deep nor shared far.

// shape is what an expression of an Op has.
type shape struct {
	op int
	// text is what Text is: nothing, a name, any text, a sign, or that of a value.
	text string
	// names is what Names are: nothing, keys, or two levels or principals.
	names string
	// least and most are how many parts it has; of an Obj as many as Names.
	least, most int
}

// shapes are those of the Ops, each at its number.
var shapes = []shape{
	{api.Dot, "", "", 0, 0},
	{api.Lit, "value", "", 0, 0},
	{api.Var, "name", "", 0, 0},
	{api.Field, "text", "", 1, 1},
	{api.Index, "", "", 2, 2},
	{api.Iter, "", "", 1, 1},
	{api.Pipe, "", "", 2, 2},
	{api.Comma, "", "", 2, 2},
	{api.Empty, "", "", 0, 0},
	{api.If, "", "", 3, 3},
	{api.Bin, "sign", "", 2, 2},
	{api.Arr, "", "", 0, 1},
	{api.Obj, "", "keys", 0, 511},
	{api.Reduce, "name", "", 3, 3},
	{api.Foreach, "name", "", 3, 3},
	{api.Try, "", "", 2, 2},
	{api.Call, "name", "", 0, 4},
	{api.As, "name", "", 2, 2},
	{api.Label, "name", "", 1, 1},
	{api.Break, "name", "", 0, 0},
	{api.Release, "", "two", 1, 1},
	{api.Range, "", "", 1, 1},
}

var signs = []string{"+", "-", "*", "/", "%", "==", "!=", "<", "<=", ">", ">=", "and", "or", "//"}

var keyWords = []string{"def", "if", "then", "else", "end", "try", "catch", "reduce", "foreach", "as", "label", "break", "and", "or", "true", "false", "null", "empty", "release", "range"}

var (
	nameForm  = regexp.MustCompile(`\A[A-Za-z_][A-Za-z_0-9]{0,15}\z`)
	levelForm = regexp.MustCompile(`\A[a-z][a-z0-9]{0,15}\z`)
)

func modelName(s string) bool { return nameForm.MatchString(s) && !slices.Contains(keyWords, s) }

// modelNumber tells whether a number may be.
func modelNumber(n api.Num) bool {
	held := n.Coef < api.MaxCoef && n.Coef > -api.MaxCoef && n.Scale >= 0 && n.Scale <= api.MaxScale
	return held && (n.Scale == 0 || n.Coef%10 != 0)
}

func modelIs(e api.Expr) bool { return modelSize(e) <= 512 && modelRight(e) }

func modelSize(e api.Expr) int {
	n := 1
	for _, p := range e.Subs {
		n += modelSize(p)
	}
	return n
}

func modelRight(e api.Expr) bool {
	if e.Op < 0 || e.Op >= len(shapes) || e.At != 0 {
		return false
	}
	s := shapes[e.Op]
	if len(e.Subs) < s.least || len(e.Subs) > s.most || !modelNames(s.names, e) || !modelText(s.text, e) {
		return false
	}
	for _, p := range e.Subs {
		if !modelRight(p) {
			return false
		}
	}
	return true
}

func modelNames(names string, e api.Expr) bool {
	switch names {
	case "keys":
		seen := map[string]bool{}
		for _, k := range e.Names {
			if seen[k] || !utf8.ValidString(k) {
				return false
			}
			seen[k] = true
		}
		return len(e.Names) == len(e.Subs)
	case "two":
		return len(e.Names) == 2 && levelForm.MatchString(e.Names[0]) && levelForm.MatchString(e.Names[1])
	}
	return len(e.Names) == 0
}

func modelText(text string, e api.Expr) bool {
	if text == "value" {
		return modelValue(e)
	}
	if e.Kind != 0 || e.Num != (api.Num{}) {
		return false
	}
	switch text {
	case "name":
		return modelName(e.Text)
	case "text":
		return utf8.ValidString(e.Text)
	case "sign":
		return slices.Contains(signs, e.Text)
	}
	return e.Text == ""
}

func modelValue(e api.Expr) bool {
	switch e.Kind {
	case api.Null, api.False, api.True:
		return e.Text == "" && e.Num == api.Num{}
	case api.Number:
		return e.Text == "" && modelNumber(e.Num)
	case api.String:
		return utf8.ValidString(e.Text) && e.Num == api.Num{}
	}
	return false
}

// modelSame tells whether all fields are the same, where there are as many parts as can be gone through.
func modelSame(a, b api.Expr) bool {
	return a.Op == b.Op && a.Text == b.Text && a.At == b.At && a.Kind == b.Kind && a.Num == b.Num && slices.Equal(a.Names, b.Names) && slices.EqualFunc(a.Subs, b.Subs, modelSame)
}

// modelParts are an expression and its parts, as a walk tells them.
func modelParts(e api.Expr) []api.Expr {
	out := []api.Expr{e}
	for _, p := range e.Subs {
		out = append(out, modelParts(p)...)
	}
	return out
}

// modelVars are the names that are used and aren't bound: those of the parts, put together, but for the name that one of them has bound.
func modelVars(e api.Expr) []string {
	var out []string
	if e.Op == api.Var {
		out = append(out, e.Text)
	}
	for i, p := range e.Subs {
		bound := e.Op == api.As && i == 1 || (e.Op == api.Reduce || e.Op == api.Foreach) && i == 2
		for _, name := range modelVars(p) {
			if !(bound && name == e.Text) && !slices.Contains(out, name) {
				out = append(out, name)
			}
		}
	}
	return out
}

// modelBound are the names that are bound somewhere in an expression.
func modelBound(e api.Expr) []string {
	var out []string
	for _, p := range modelParts(e) {
		if p.Op == api.As || p.Op == api.Reduce || p.Op == api.Foreach {
			out = append(out, p.Text)
		}
	}
	return out
}

// copied is an expression that shares nothing with another one.
func copied(e api.Expr) api.Expr {
	e.Names = slices.Clone(e.Names)
	e.Subs = slices.Clone(e.Subs)
	for i := range e.Subs {
		e.Subs[i] = copied(e.Subs[i])
	}
	return e
}

// someName is one of few names, so that many are bound.
func someName(r *rand.Rand) string { return string(rune('x' + r.Intn(3))) }

var texts = []string{"", "a", "if", "h\u00e9\u20ac", "\x00", "\"\\", "abcdefghijklmnopqrstuvwxyz"}

var numbers = []api.Num{{}, {Coef: 1}, {Coef: -15, Scale: 1}, {Coef: api.MaxCoef - 1}, {Coef: 1 - api.MaxCoef, Scale: api.MaxScale}, {Coef: 10}}

// someExpr is an expression that may be, of at most so many parts, at least 1.
func someExpr(r *rand.Rand, most int) api.Expr {
	ops := []int{api.Dot, api.Lit, api.Var, api.Var, api.Empty, api.Break}
	if most >= 5 {
		ops = []int{api.Field, api.Index, api.Iter, api.Pipe, api.Comma, api.If, api.Bin, api.Arr, api.Obj, api.Reduce, api.Foreach, api.Try, api.Call, api.As, api.As, api.Label, api.Release, api.Range}
	}
	return filled(r, ops[r.Intn(len(ops))], most)
}

// filled is an expression of an Op that may be, of at most so many parts.
func filled(r *rand.Rand, op, most int) api.Expr {
	e := api.Expr{Op: op}
	s := shapes[op]
	n := min(s.least+r.Intn(min(s.most, 4)-s.least+1), most-1)
	switch s.text {
	case "name":
		e.Text = someName(r)
	case "text":
		e.Text = texts[r.Intn(len(texts))]
	case "sign":
		e.Text = signs[r.Intn(len(signs))]
	case "value":
		e.Kind = r.Intn(5)
		if e.Kind == api.Number {
			e.Num = numbers[r.Intn(len(numbers))]
		}
		if e.Kind == api.String {
			e.Text = texts[r.Intn(len(texts))]
		}
	}
	switch s.names {
	case "keys":
		for i := range n {
			e.Names = append(e.Names, texts[(i+1)%len(texts)]+strconv.Itoa(r.Intn(9)))
		}
	case "two":
		e.Names = []string{"low", "bob"}
	}
	for range n {
		e.Subs = append(e.Subs, someExpr(r, (most-1)/n))
	}
	return e
}

// strange is any expression, one that may not be most of the time, in which names are used and bound.
func strange(r *rand.Rand, deep int) api.Expr {
	ops := []int{api.Var, api.Var, api.As, api.Reduce, api.Foreach, api.Pipe, api.Label, api.Dot, -1, 22, 99}
	e := api.Expr{Op: ops[r.Intn(len(ops))], Text: string(rune('v' + r.Intn(5)))}
	if deep > 0 {
		for range r.Intn(5) {
			e.Subs = append(e.Subs, strange(r, deep-1))
		}
	}
	return e
}
