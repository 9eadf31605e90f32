package parse_test

import (
	"regexp"
	"slices"
	"strings"

	"keyhole/api"
	"keyhole/lex"
	"keyhole/tree"
)

// The model goes by the chapter's rules alone: it tries every way in which tokens may be a query, the longest ones first, so that the furthest token that any way comes to is the first one that is wrong.

var (
	nameForm  = regexp.MustCompile(`\A[A-Za-z_][A-Za-z_0-9]{0,15}\z`)
	partyForm = regexp.MustCompile(`\A[a-z][a-z0-9]{0,15}\z`)
	keyWords  = strings.Fields("def if then else end try catch reduce foreach as label break and or true false null empty release range")
	// alone are the words that are no field's behind a point that begins something.
	alone = strings.Fields("as and or then else end catch")
)

func modelName(s string) bool { return nameForm.MatchString(s) && !slices.Contains(keyWords, s) }

// goOn is what comes behind an expression that ends ahead of a token.
type goOn func(at int, e api.Expr) bool

// rule reads an expression that begins with a token, in every way, till what comes behind it is content.
type rule func(at int, k goOn) bool

type model struct {
	tokens []lex.Token
	// twice is the first key, on this way, that its object has already; -1, if there is none.
	twice int
	// far is the furthest token that a way came to; farTwice is that way's first key that is there twice, unless there is a way without any.
	far, farTwice int
	steps         int
}

// tooLong stops a model that would take too long.
type tooLong struct{}

// token is the token to which a way has come.
func (m *model) token(at int) lex.Token {
	m.steps++
	if m.steps > 1<<20 {
		panic(tooLong{})
	}
	if at > m.far || at == m.far && m.twice < 0 {
		m.far, m.farTwice = at, m.twice
	}
	return m.tokens[at]
}

func (m *model) is(at int, text string) bool {
	t := m.token(at)
	return (t.Kind == lex.Sign || t.Kind == lex.Name) && t.Text == text
}

func (m *model) kind(at, kind int) bool { return m.token(at).Kind == kind }

func (m *model) name(at int) bool { return m.kind(at, lex.Name) && modelName(m.tokens[at].Text) }

func (m *model) variable(at int) bool { return m.kind(at, lex.Var) && modelName(m.tokens[at].Text) }

func (m *model) party(at int) bool {
	return m.kind(at, lex.Name) && partyForm.MatchString(m.tokens[at].Text)
}

func (m *model) key(at int) bool { return m.kind(at, lex.Name) || m.kind(at, lex.String) }

func ex(op int, text string, parts ...api.Expr) api.Expr {
	return api.Expr{Op: op, Text: text, Subs: parts}
}

func (m *model) pipe(at int, k goOn) bool {
	return m.comma(at, func(at int, left api.Expr) bool {
		return m.is(at, "|") && m.pipe(at+1, func(at int, right api.Expr) bool {
			return k(at, ex(api.Pipe, "", left, right))
		}) || k(at, left)
	})
}

func (m *model) comma(at int, k goOn) bool {
	return m.alt(at, func(at int, e api.Expr) bool { return m.more(m.alt, ",", at, e, k) })
}

func (m *model) alt(at int, k goOn) bool {
	return m.or(at, func(at int, left api.Expr) bool {
		return m.is(at, "//") && m.alt(at+1, func(at int, right api.Expr) bool {
			return k(at, ex(api.Bin, "//", left, right))
		}) || k(at, left)
	})
}

func (m *model) or(at int, k goOn) bool {
	return m.and(at, func(at int, e api.Expr) bool { return m.more(m.and, "or", at, e, k) })
}

func (m *model) and(at int, k goOn) bool {
	return m.cmp(at, func(at int, e api.Expr) bool { return m.more(m.cmp, "and", at, e, k) })
}

func (m *model) cmp(at int, k goOn) bool {
	return m.sum(at, func(at int, left api.Expr) bool {
		for _, s := range []string{"==", "!=", "<", "<=", ">", ">="} {
			if m.is(at, s) && m.sum(at+1, func(at int, right api.Expr) bool { return k(at, ex(api.Bin, s, left, right)) }) {
				return true
			}
		}
		return k(at, left)
	})
}

func (m *model) sum(at int, k goOn) bool {
	return m.prod(at, func(at int, e api.Expr) bool { return m.more(m.prod, "+ -", at, e, k) })
}

func (m *model) prod(at int, k goOn) bool {
	return m.post(at, func(at int, e api.Expr) bool { return m.more(m.post, "* / %", at, e, k) })
}

// more reads any number of sides, behind one.
func (m *model) more(side rule, signs string, at int, left api.Expr, k goOn) bool {
	for _, s := range strings.Fields(signs) {
		if m.is(at, s) && side(at+1, func(at int, right api.Expr) bool {
			e := ex(api.Bin, s, left, right)
			if s == "," {
				e = ex(api.Comma, "", left, right)
			}
			return m.more(side, signs, at, e, k)
		}) {
			return true
		}
	}
	return k(at, left)
}

func (m *model) post(at int, k goOn) bool {
	return m.bare(at, func(at int, e api.Expr) bool {
		return m.is(at, "as") && m.variable(at+1) && m.is(at+2, "|") && m.pipe(at+3, func(end int, in api.Expr) bool {
			return k(end, ex(api.As, m.tokens[at+1].Text, e, in))
		}) || k(at, e)
	})
}

func (m *model) bare(at int, k goOn) bool {
	return m.prim(at, func(at int, e api.Expr) bool { return m.behind(at, e, k) })
}

// behind reads any number of fields and indexes, behind something.
func (m *model) behind(at int, e api.Expr, k goOn) bool {
	if m.is(at, ".") && m.key(at+1) && m.behind(at+2, ex(api.Field, m.tokens[at+1].Text, e), k) {
		return true
	}
	if m.is(at, "[") && m.is(at+1, "]") && m.behind(at+2, ex(api.Iter, "", e), k) {
		return true
	}
	return m.is(at, "[") && m.pipe(at+1, func(at int, i api.Expr) bool {
		return m.is(at, "]") && m.behind(at+1, ex(api.Index, "", e, i), k)
	}) || k(at, e)
}

// all reads one expression behind each of some words, and then the last word; parts are those that were read already.
func (m *model) all(words string, at int, parts []api.Expr, k func(at int, parts []api.Expr) bool) bool {
	word, left, goesOn := strings.Cut(words, " ")
	if !m.is(at, word) {
		return false
	}
	if !goesOn {
		return k(at+1, parts)
	}
	return m.pipe(at+1, func(at int, e api.Expr) bool {
		return m.all(left, at, append(slices.Clone(parts), e), k)
	})
}

func (m *model) prim(at int, k goOn) bool {
	t := m.token(at)
	switch t.Kind {
	case lex.Number:
		return k(at+1, api.Expr{Op: api.Lit, Kind: api.Number, Num: t.Num})
	case lex.String:
		return k(at+1, api.Expr{Op: api.Lit, Kind: api.String, Text: t.Text})
	case lex.Var:
		return m.variable(at) && k(at+1, ex(api.Var, t.Text))
	case lex.End:
		return false
	}
	return m.signed(at, k) || m.worded(at, k) || m.name(at) && m.call(at, k)
}

// made goes on with an expression of parts.
func made(op int, k goOn) func(int, []api.Expr) bool {
	return func(at int, parts []api.Expr) bool { return k(at, ex(op, "", parts...)) }
}

func (m *model) signed(at int, k goOn) bool {
	switch m.tokens[at].Text {
	case ".":
		return m.dot(at+1, k)
	case "-":
		return m.kind(at+1, lex.Number) && k(at+2, api.Expr{Op: api.Lit, Kind: api.Number, Num: api.Num{Coef: -m.tokens[at+1].Num.Coef, Scale: m.tokens[at+1].Num.Scale}})
	case "(":
		return m.all("( )", at, nil, func(at int, parts []api.Expr) bool { return k(at, parts[0]) })
	case "[":
		return m.is(at+1, "]") && k(at+2, ex(api.Arr, "")) || m.all("[ ]", at, nil, made(api.Arr, k))
	case "{":
		return m.is(at+1, "}") && k(at+2, ex(api.Obj, "")) || m.pairs(at+1, api.Expr{Op: api.Obj}, k)
	}
	return false
}

func (m *model) worded(at int, k goOn) bool {
	switch m.tokens[at].Text {
	case "true":
		return k(at+1, api.Expr{Op: api.Lit, Kind: api.True})
	case "false":
		return k(at+1, api.Expr{Op: api.Lit, Kind: api.False})
	case "null":
		return k(at+1, api.Expr{Op: api.Lit, Kind: api.Null})
	case "empty":
		return k(at+1, ex(api.Empty, ""))
	case "if":
		return m.all("if then else end", at, nil, made(api.If, k))
	case "try":
		return m.bare(at+1, func(at int, tried api.Expr) bool {
			return m.is(at, "catch") && m.bare(at+1, func(at int, caught api.Expr) bool { return k(at, ex(api.Try, "", tried, caught)) })
		})
	case "reduce":
		return m.loop(at+1, api.Reduce, k)
	case "foreach":
		return m.loop(at+1, api.Foreach, k)
	case "label":
		return m.variable(at+1) && m.is(at+2, "|") && m.pipe(at+3, func(end int, e api.Expr) bool { return k(end, ex(api.Label, m.tokens[at+1].Text, e)) })
	case "break":
		return m.variable(at+1) && k(at+2, ex(api.Break, m.tokens[at+1].Text))
	case "range":
		return m.all("( )", at+1, nil, made(api.Range, k))
	case "release":
		return m.all("( ;", at+1, nil, func(at int, parts []api.Expr) bool {
			return m.party(at) && m.is(at+1, ";") && m.party(at+2) && m.is(at+3, ")") && k(at+4, api.Expr{Op: api.Release, Names: []string{m.tokens[at].Text, m.tokens[at+2].Text}, Subs: parts})
		})
	}
	return false
}

func (m *model) dot(at int, k goOn) bool {
	isAlone := m.kind(at, lex.Name) && slices.Contains(alone, m.tokens[at].Text)
	return !isAlone && m.key(at) && k(at+1, ex(api.Field, m.tokens[at].Text, api.Expr{})) || k(at, api.Expr{})
}

func (m *model) loop(at, op int, k goOn) bool {
	return m.bare(at, func(at int, values api.Expr) bool {
		return m.is(at, "as") && m.variable(at+1) && m.all("( ; )", at+2, nil, func(end int, parts []api.Expr) bool {
			return k(end, ex(op, m.tokens[at+1].Text, values, parts[0], parts[1]))
		})
	})
}

func (m *model) call(at int, k goOn) bool {
	e := ex(api.Call, m.tokens[at].Text)
	return m.is(at+1, "(") && m.parts(at+2, e, k) || k(at+1, e)
}

// parts reads at least one part of a call, and the end of its brackets.
func (m *model) parts(at int, e api.Expr, k goOn) bool {
	return m.pipe(at, func(at int, part api.Expr) bool {
		e := e
		e.Subs = append(slices.Clone(e.Subs), part)
		return m.is(at, ")") && k(at+1, e) || len(e.Subs) < 4 && m.is(at, ";") && m.parts(at+1, e, k)
	})
}

// pairs reads at least one pair, and the end of an object.
func (m *model) pairs(at int, o api.Expr, k goOn) bool {
	if !m.key(at) {
		return false
	}
	before := m.twice
	if m.twice < 0 && slices.Contains(o.Names, m.tokens[at].Text) {
		m.twice = at
	}
	o.Names = append(slices.Clone(o.Names), m.tokens[at].Text)
	done := m.is(at+1, ":") && m.alt(at+2, func(at int, e api.Expr) bool {
		o := o
		o.Subs = append(slices.Clone(o.Subs), e)
		return m.is(at, ",") && m.pairs(at+1, o, k) || m.is(at, "}") && k(at+1, o)
	})
	if !done {
		m.twice = before
	}
	return done
}

func (m *model) end(at int) bool { return m.kind(at, lex.End) }

// query reads defs, and what is behind them.
func (m *model) query(at int, p api.Program, k func(p api.Program) bool) bool {
	if m.is(at, "def") {
		return m.name(at+1) && m.params(at+2, api.Func{Name: m.tokens[at+1].Text}, func(at int, f api.Func) bool {
			return m.is(at, ":") && m.pipe(at+1, func(at int, e api.Expr) bool {
				next := p
				f.Body = e
				next.Funcs = append(slices.Clone(p.Funcs), f)
				return m.is(at, ";") && m.query(at+1, next, k)
			})
		})
	}
	return m.pipe(at, func(at int, e api.Expr) bool {
		p.Main = e
		return m.end(at) && k(p)
	})
}

func (m *model) params(at int, f api.Func, k func(at int, f api.Func) bool) bool {
	if !m.is(at, "(") {
		return k(at, f)
	}
	for n := range 4 {
		if !m.variable(at + 1 + 2*n) {
			return false
		}
		f.Params = append(slices.Clone(f.Params), m.tokens[at+1+2*n].Text)
		if m.is(at+2+2*n, ")") {
			return k(at+3+2*n, f)
		}
		if n == 3 || !m.is(at+2+2*n, ";") {
			return false
		}
	}
	return false
}

// answer is what a call answers of a query.
type answer struct {
	program api.Program
	at      int
	e       api.Errno
}

// modelQuery is what Query ought to answer of a query that is neither too large nor has too many defs; false, if that would take too long. It tells besides which token, by its number, is the first one that no query goes on with; there is none in a query.
func modelQuery(q string) (a answer, far int, ok bool) {
	return modelled(q, func(m *model, a *answer) bool {
		return m.query(0, api.Program{}, func(p api.Program) bool {
			a.program = p
			return true
		})
	})
}

// modelExpr is likewise what Expr ought to answer; a program has nothing but the expression then.
func modelExpr(q string) (a answer, far int, ok bool) {
	return modelled(q, func(m *model, a *answer) bool {
		return m.pipe(0, func(at int, e api.Expr) bool {
			a.program.Main = e
			return m.end(at)
		})
	})
}

func modelled(q string, whole func(*model, *answer) bool) (a answer, far int, ok bool) {
	tokens, at, e := lex.Tokens(q)
	if e != api.OK {
		return answer{at: at, e: e}, -1, true
	}
	defer func() {
		switch x := recover().(type) {
		case nil:
		case tooLong:
			ok = false
		default:
			panic(x)
		}
	}()
	m := &model{tokens: tokens, twice: -1}
	if whole(m, &a) {
		if m.twice >= 0 {
			a = answer{at: tokens[m.twice].At, e: api.ErrTwice}
		}
		return a, len(tokens), true
	}
	if m.farTwice >= 0 {
		return answer{at: tokens[m.farTwice].At, e: api.ErrTwice}, m.far, true
	}
	return answer{at: tokens[m.far].At, e: api.ErrSyntax}, m.far, true
}

func samePrograms(a, b api.Program) bool {
	return slices.EqualFunc(a.Funcs, b.Funcs, func(f, g api.Func) bool {
		return f.Name == g.Name && slices.Equal(f.Params, g.Params) && tree.Same(f.Body, g.Body)
	}) && tree.Same(a.Main, b.Main)
}
