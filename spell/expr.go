package spell

import (
	"keyhole/api"
	"keyhole/num"
	"keyhole/utf"
)

// ofFunc is the text of a function that may be.
func ofFunc(f api.Func) text {
	var params []text
	for _, name := range f.Params {
		params = append(params, variable(name))
	}
	return join(word("def "), word(f.Name), bracketed(params), word(":"), ofExpr(f.Body), word(";"))
}

// ofExpr is the text of an expression that may be.
func ofExpr(e api.Expr) text {
	switch e.Op {
	case api.Dot:
		return word(".")
	case api.Empty:
		return word("empty")
	case api.Lit:
		return ofValue(e)
	case api.Var:
		return variable(e.Text)
	case api.Break:
		return join(word("break "), variable(e.Text))
	case api.Arr:
		return join(word("["), join(ofAll(e.Subs)...), word("]"))
	case api.Obj:
		return ofObject(e)
	case api.Call:
		return join(word(e.Text), bracketed(ofAll(e.Subs)))
	}
	return ofParts(e, e.Subs)
}

// ofParts is the text of an expression that always has parts, as many as its Op has.
func ofParts(e api.Expr, parts []api.Expr) text {
	switch e.Op {
	case api.Field:
		return ofField(e.Text, parts[0])
	case api.Index:
		return join(wrapped(parts[0]), word("["), ofExpr(parts[1]), word("]"))
	case api.Iter:
		return join(wrapped(parts[0]), word("[]"))
	case api.Pipe:
		return join(wrapped(parts[0]), word("|"), wrapped(parts[1]))
	case api.Comma:
		return join(wrapped(parts[0]), word(","), wrapped(parts[1]))
	case api.Bin:
		return join(wrapped(parts[0]), word(" "), word(e.Text), word(" "), wrapped(parts[1]))
	case api.If:
		return join(word("if "), ofExpr(parts[0]), word(" then "), ofExpr(parts[1]), word(" else "), ofExpr(parts[2]), word(" end"))
	case api.Try:
		return join(word("try "), wrapped(parts[0]), word(" catch "), wrapped(parts[1]))
	case api.Range:
		return join(word("range("), ofExpr(parts[0]), word(")"))
	case api.Release:
		return join(word("release("), ofExpr(parts[0]), word(";"), word(e.Names[0]), word(";"), word(e.Names[1]), word(")"))
	}
	return ofBinder(e, parts)
}

// ofBinder is the text of an expression that binds a name.
func ofBinder(e api.Expr, parts []api.Expr) text {
	switch e.Op {
	case api.As:
		return join(bound(parts[0], e.Text), word("|"), wrapped(parts[1]))
	case api.Label:
		return join(word("label "), variable(e.Text), word("|"), wrapped(parts[0]))
	case api.Reduce:
		return join(word("reduce "), bound(parts[0], e.Text), bracketed(ofAll(parts[1:])))
	}
	return join(word("foreach "), bound(parts[0], e.Text), bracketed(ofAll(parts[1:])))
}

// bound is an expression whose values a name stands for.
func bound(e api.Expr, name string) text {
	return join(wrapped(e), word(" as "), variable(name))
}

// wrapped is an expression's text, in brackets where it wouldn't hold together as it is.
func wrapped(e api.Expr) text {
	switch e.Op {
	case api.Dot, api.Empty, api.Var, api.Lit:
		return ofExpr(e)
	}
	return join(word("("), ofExpr(e), word(")"))
}

func ofAll(parts []api.Expr) []text {
	var out []text
	for _, p := range parts {
		out = append(out, ofExpr(p))
	}
	return out
}

func ofField(name string, part api.Expr) text {
	field := join(word("."), quoted(name))
	if part.Op == api.Dot {
		return field
	}
	return join(wrapped(part), field)
}

func ofObject(e api.Expr) text {
	var pairs []text
	for i, p := range e.Subs {
		pairs = append(pairs, join(quoted(e.Names[i]), word(":"), wrapped(p)))
	}
	return join(word("{"), between(",", pairs), word("}"))
}

func ofValue(e api.Expr) text {
	switch e.Kind {
	case api.Null:
		return word("null")
	case api.False:
		return word("false")
	case api.True:
		return word("true")
	case api.String:
		return quoted(e.Text)
	}
	if e.Num.Coef < 0 {
		return join(word("("), word(num.Text(e.Num)), word(")"))
	}
	return word(num.Text(e.Num))
}

func variable(name string) text { return join(word("$"), word(name)) }

// quoted is a text in quotes; in what may be nothing is no text.
func quoted(s string) text {
	q, _ := utf.Quote(s)
	return word(q)
}
