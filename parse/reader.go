package parse

import (
	"keyhole/api"
	"keyhole/lex"
	"keyhole/tree"
)

// What is around an expression may go on behind it with a token that could be the expression's own, too.
const (
	// inNothing is in what doesn't.
	inNothing = iota
	// inLoop is in what goes on with as, a variable, and a bracket.
	inLoop
	// inObject is in what goes on with a comma, a key, and a colon.
	inObject
)

// reader reads expressions.
type reader struct {
	row
	// around is the innermost thing around that goes on as soon as all is over that was begun in it and has no end of its own.
	around int
}

// program is all that is left.
func (r *reader) program() api.Program {
	var p api.Program
	for r.comes(0, "def") {
		if len(p.Funcs) == api.MaxFuncs {
			stop(r.next(), api.ErrMany)
		}
		p.Funcs = append(p.Funcs, r.function())
	}
	p.Main = r.main()
	return p
}

func (r *reader) function() api.Func {
	r.take("def")
	f := api.Func{Name: r.text(isName)}
	r.few(func() { f.Params = append(f.Params, r.text(isVar)) })
	r.take(":")
	f.Body = r.part()
	r.take(";")
	return f
}

// main is the expression that is all that is left.
func (r *reader) main() api.Expr {
	e := r.part()
	r.end()
	return e
}

// part is an expression that isn't too large.
func (r *reader) part() api.Expr {
	first := r.next()
	e := r.pipe()
	if tree.Size(e, api.MaxExpr+1) > api.MaxExpr {
		stop(first, api.ErrMany)
	}
	return e
}

// within is what is read with this around.
func (r *reader) within(around int, read func() api.Expr) api.Expr {
	before := r.around
	r.around = around
	e := read()
	r.around = before
	return e
}

// upTo is a pipe that ends with a sign, or a word.
func (r *reader) upTo(end string) api.Expr {
	e := r.within(inNothing, r.pipe)
	r.take(end)
	return e
}

// isOver tells whether the next token belongs to what is around. The expression that was read could go on with it, too, but by the tokens behind it no query would come of that.
func (r *reader) isOver() bool {
	switch r.around {
	case inLoop:
		return r.comes(0, "as") && r.comes(2, "(")
	case inObject:
		key := r.ahead(1)
		return r.comes(0, ",") && isKey(key) && (r.comes(2, ":") || !mayBegin(key))
	}
	return false
}

// mayBegin tells whether an expression may begin with a key.
func mayBegin(key lex.Token) bool {
	return !isWord(key) || key.Text != "def" && !mayFollow(key.Text)
}

// mayFollow tells whether a word may stand right behind an expression.
func mayFollow(word string) bool {
	switch word {
	case "as", "and", "or", "then", "else", "end", "catch":
		return true
	}
	return false
}
