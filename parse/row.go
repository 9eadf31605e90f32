package parse

import (
	"keyhole/api"
	"keyhole/level"
	"keyhole/lex"
)

// maxParts is how many variables a function has at most, and how many parts a call.
const maxParts = 4

// row is tokens, up to the end, that are read from the front. Where one is wrong, it panics with a fault.
type row struct {
	tokens []lex.Token
	at     int
}

// fault is what is wrong, and where.
type fault struct {
	at int
	e  api.Errno
}

func stop(t lex.Token, e api.Errno) { panic(fault{t.At, e}) }

// next is the token that comes next.
func (r *row) next() lex.Token { return r.ahead(0) }

// ahead is the token that comes behind so many others; the end, if there are too few.
func (r *row) ahead(n int) lex.Token { return r.tokens[min(r.at+n, len(r.tokens)-1)] }

// comes tells whether a sign, or a word, comes behind so many tokens.
func (r *row) comes(n int, text string) bool {
	t := r.ahead(n)
	return (t.Kind == lex.Sign || isWord(t)) && t.Text == text
}

// skip goes past a sign, or a word, if it comes next.
func (r *row) skip(text string) bool {
	if !r.comes(0, text) {
		return false
	}
	r.at++
	return true
}

// take goes past a sign, or a word, which must come next.
func (r *row) take(text string) {
	if !r.skip(text) {
		stop(r.next(), api.ErrSyntax)
	}
}

// text goes past the token that comes next, which must be such, and is its text.
func (r *row) text(such func(lex.Token) bool) string {
	t := r.next()
	if !such(t) {
		stop(t, api.ErrSyntax)
	}
	r.at++
	return t.Text
}

// few goes past brackets, if they come next, with at least one thing in them, and no more than there may be.
func (r *row) few(thing func()) {
	if !r.skip("(") {
		return
	}
	thing()
	for n := 1; n < maxParts && r.skip(";"); n++ {
		thing()
	}
	r.take(")")
}

// end holds that nothing more comes.
func (r *row) end() {
	if t := r.next(); t.Kind != lex.End {
		stop(t, api.ErrSyntax)
	}
}

func isWord(t lex.Token) bool { return t.Kind == lex.Name }

// isKey tells whether it may be the key of a pair, or of a field.
func isKey(t lex.Token) bool { return isWord(t) || t.Kind == lex.String }

func isName(t lex.Token) bool { return isWord(t) && lex.Ident(t.Text) }

func isVar(t lex.Token) bool { return t.Kind == lex.Var && lex.Ident(t.Text) }

// isParty tells whether it may be a level's name, or a principal's.
func isParty(t lex.Token) bool { return isWord(t) && level.Name(t.Text) }
