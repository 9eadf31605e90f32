package parse

import (
	"keyhole/api"
)

func (r *reader) pipe() api.Expr { return r.once(r.comma, r.pipe, "|") }

func (r *reader) comma() api.Expr { return r.often(r.alt, ",") }

func (r *reader) alt() api.Expr { return r.once(r.or, r.alt, "//") }

func (r *reader) or() api.Expr { return r.often(r.and, "or") }

func (r *reader) and() api.Expr { return r.often(r.cmp, "and") }

func (r *reader) cmp() api.Expr {
	return r.once(r.sum, r.sum, "==", "!=", "<", "<=", ">", ">=")
}

func (r *reader) sum() api.Expr { return r.often(r.prod, "+", "-") }

func (r *reader) prod() api.Expr { return r.often(r.post, "*", "/", "%") }

// once is a left side, and a right one, if one of the signs is between.
func (r *reader) once(left, right func() api.Expr, signs ...string) api.Expr {
	e := left()
	if s := r.sign(signs); s != "" {
		e = both(s, e, right())
	}
	return e
}

// often is sides with any of the signs between, put together from the left on.
func (r *reader) often(side func() api.Expr, signs ...string) api.Expr {
	e := side()
	for s := r.sign(signs); s != ""; s = r.sign(signs) {
		e = both(s, e, side())
	}
	return e
}

// sign goes past one of some signs, and tells it; "", if none comes next that goes on with what was read.
func (r *reader) sign(signs []string) string {
	for _, s := range signs {
		if r.comes(0, s) && !r.isOver() {
			r.take(s)
			return s
		}
	}
	return ""
}

// both is two sides of a sign.
func both(sign string, left, right api.Expr) api.Expr {
	e := api.Expr{Op: api.Bin, Text: sign, Subs: []api.Expr{left, right}}
	switch sign {
	case "|":
		e.Op, e.Text = api.Pipe, ""
	case ",":
		e.Op, e.Text = api.Comma, ""
	}
	return e
}

func (r *reader) post() api.Expr {
	e := r.bare()
	if r.isOver() || !r.skip("as") {
		return e
	}
	name := r.text(isVar)
	r.take("|")
	return api.Expr{Op: api.As, Text: name, Subs: []api.Expr{e, r.pipe()}}
}

func (r *reader) bare() api.Expr {
	e := r.prim()
	for {
		switch {
		case r.skip("."):
			e = api.Expr{Op: api.Field, Text: r.text(isKey), Subs: []api.Expr{e}}
		case !r.skip("["):
			return e
		case r.skip("]"):
			e = api.Expr{Op: api.Iter, Subs: []api.Expr{e}}
		default:
			e = api.Expr{Op: api.Index, Subs: []api.Expr{e, r.upTo("]")}}
		}
	}
}
