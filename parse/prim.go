package parse

import (
	"slices"

	"keyhole/api"
	"keyhole/lex"
)

func (r *reader) prim() api.Expr {
	t := r.next()
	switch t.Kind {
	case lex.Number:
		return r.number(1)
	case lex.String:
		r.at++
		return api.Expr{Op: api.Lit, Kind: api.String, Text: t.Text}
	case lex.Var:
		return api.Expr{Op: api.Var, Text: r.text(isVar)}
	case lex.Sign:
		return r.signed()
	}
	if isName(t) {
		return r.call()
	}
	return r.worded()
}

// number is the number that comes next, so many times.
func (r *reader) number(times int64) api.Expr {
	t := r.next()
	if t.Kind != lex.Number {
		stop(t, api.ErrSyntax)
	}
	r.at++
	t.Num.Coef *= times
	return api.Expr{Op: api.Lit, Kind: api.Number, Num: t.Num}
}

func (r *reader) call() api.Expr {
	e := api.Expr{Op: api.Call, Text: r.text(isName)}
	r.few(func() { e.Subs = append(e.Subs, r.within(inNothing, r.pipe)) })
	return e
}

// signed is what begins with a sign.
func (r *reader) signed() api.Expr {
	switch {
	case r.skip("."):
		return r.dot()
	case r.skip("-"):
		return r.number(-1)
	case r.skip("("):
		return r.upTo(")")
	case r.skip("["):
		return r.array()
	}
	r.take("{")
	return r.object()
}

// dot is what stands behind a point, or the point alone.
func (r *reader) dot() api.Expr {
	t := r.next()
	if !isKey(t) || isWord(t) && mayFollow(t.Text) {
		return api.Expr{}
	}
	return api.Expr{Op: api.Field, Text: r.text(isKey), Subs: []api.Expr{{}}}
}

func (r *reader) array() api.Expr {
	if r.skip("]") {
		return api.Expr{Op: api.Arr}
	}
	return api.Expr{Op: api.Arr, Subs: []api.Expr{r.upTo("]")}}
}

func (r *reader) object() api.Expr {
	e := api.Expr{Op: api.Obj}
	if r.skip("}") {
		return e
	}
	r.pair(&e)
	for r.skip(",") {
		r.pair(&e)
	}
	r.take("}")
	return e
}

// pair puts the pair that comes next into an object.
func (r *reader) pair(e *api.Expr) {
	t := r.next()
	key := r.text(isKey)
	if slices.Contains(e.Names, key) {
		stop(t, api.ErrTwice)
	}
	r.take(":")
	e.Names = append(e.Names, key)
	e.Subs = append(e.Subs, r.within(inObject, r.alt))
}

// worded is what begins with a key word.
func (r *reader) worded() api.Expr {
	switch {
	case r.skip("null"):
		return api.Expr{Op: api.Lit, Kind: api.Null}
	case r.skip("false"):
		return api.Expr{Op: api.Lit, Kind: api.False}
	case r.skip("true"):
		return api.Expr{Op: api.Lit, Kind: api.True}
	case r.skip("empty"):
		return api.Expr{Op: api.Empty}
	case r.skip("if"):
		return api.Expr{Op: api.If, Subs: []api.Expr{r.upTo("then"), r.upTo("else"), r.upTo("end")}}
	case r.skip("try"):
		return r.try()
	case r.skip("reduce"):
		return r.loop(api.Reduce)
	case r.skip("foreach"):
		return r.loop(api.Foreach)
	case r.skip("label"):
		return r.label()
	case r.skip("break"):
		return api.Expr{Op: api.Break, Text: r.text(isVar)}
	case r.skip("range"):
		r.take("(")
		return api.Expr{Op: api.Range, Subs: []api.Expr{r.upTo(")")}}
	}
	r.take("release")
	return r.release()
}

func (r *reader) try() api.Expr {
	tried := r.within(inNothing, r.bare)
	r.take("catch")
	return api.Expr{Op: api.Try, Subs: []api.Expr{tried, r.bare()}}
}

// loop is what goes through values, by its Op.
func (r *reader) loop(op int) api.Expr {
	values := r.within(inLoop, r.bare)
	r.take("as")
	e := api.Expr{Op: op, Text: r.text(isVar)}
	r.take("(")
	e.Subs = []api.Expr{values, r.upTo(";"), r.upTo(")")}
	return e
}

func (r *reader) label() api.Expr {
	e := api.Expr{Op: api.Label, Text: r.text(isVar)}
	r.take("|")
	e.Subs = []api.Expr{r.pipe()}
	return e
}

func (r *reader) release() api.Expr {
	r.take("(")
	e := api.Expr{Op: api.Release, Subs: []api.Expr{r.upTo(";")}}
	to := r.text(isParty)
	r.take(";")
	e.Names = []string{to, r.text(isParty)}
	r.take(")")
	return e
}
