package tree

import (
	"slices"

	"keyhole/api"
	"keyhole/kinds"
	"keyhole/level"
	"keyhole/lex"
	"keyhole/utf"
)

// isRight tells whether an expression has what its Op has, and nothing else, whatever its parts are.
func isRight(e api.Expr) bool {
	return e.At == 0 && hasParts(e) && hasNames(e) && hasText(e) && hasValue(e)
}

// hasParts tells whether there are as many parts as the Op has; no other number is an Op.
func hasParts(e api.Expr) bool {
	n := len(e.Subs)
	switch e.Op {
	case api.Dot, api.Lit, api.Var, api.Empty, api.Break:
		return n == 0
	case api.Field, api.Iter, api.Label, api.Release, api.Range:
		return n == 1
	case api.Index, api.Pipe, api.Comma, api.Bin, api.Try, api.As:
		return n == 2
	case api.If, api.Reduce, api.Foreach:
		return n == 3
	case api.Arr:
		return n <= 1
	case api.Call:
		return n <= 4
	case api.Obj:
		return n == len(e.Names)
	}
	return false
}

func hasNames(e api.Expr) bool {
	switch e.Op {
	case api.Obj:
		return areKeys(e.Names)
	case api.Release:
		return len(e.Names) == 2 && level.Name(e.Names[0]) && level.Name(e.Names[1])
	}
	return len(e.Names) == 0
}

// areKeys tells whether all are texts, and unlike.
func areKeys(names []string) bool {
	met := map[string]struct{}{}
	for _, s := range names {
		if _, again := met[s]; again || !utf.Valid(s) {
			return false
		}
		met[s] = struct{}{}
	}
	return true
}

func hasText(e api.Expr) bool {
	switch e.Op {
	case api.Var, api.Reduce, api.Foreach, api.Call, api.As, api.Label, api.Break:
		return lex.Ident(e.Text)
	case api.Field:
		return utf.Valid(e.Text)
	case api.Bin:
		return slices.Contains(Signs(), e.Text)
	case api.Lit:
		// It is told with the value.
		return true
	}
	return e.Text == ""
}

// hasValue tells whether there is a value where the Op has one.
func hasValue(e api.Expr) bool {
	if e.Op != api.Lit {
		return e.Kind == 0 && e.Num == api.Num{}
	}
	return e.Kind <= api.String && kinds.Right(e.Kind, e.Num, e.Text, nil, 0)
}
