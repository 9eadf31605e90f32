package lex

import (
	"strings"

	"keyhole/api"
	"keyhole/num"
	"keyhole/utf"
)

// blanks is how many bytes at the front are blanks.
func blanks(s string) int {
	n := 0
	for n < len(s) {
		switch s[n] {
		case '\t', '\n', '\r', ' ':
			n++
		case '#':
			remark, _, _ := strings.Cut(s[n:], "\n")
			n += len(remark)
		default:
			return n
		}
	}
	return n
}

// first is the token that bytes, at least one, begin with, as if it stood at place 0, and how many bytes it takes.
func first(s string) (Token, int, api.Errno) {
	switch b := s[0]; {
	case isLetter(b):
		return firstName(s)
	case b == '$':
		return firstVar(s)
	case isDigit(b):
		return firstNumber(s)
	case b == '"':
		return firstString(s)
	}
	return firstSign(s)
}

func firstName(s string) (Token, int, api.Errno) {
	n := nameLength(s)
	if !fits(s[:n]) {
		return Token{}, 0, api.ErrSyntax
	}
	return Token{Kind: Name, Text: s[:n]}, n, api.OK
}

func firstVar(s string) (Token, int, api.Errno) {
	n := 1 + nameLength(s[1:])
	if !fits(s[1:n]) {
		return Token{}, 0, api.ErrSyntax
	}
	return Token{Kind: Var, Text: s[1:n]}, n, api.OK
}

// nameLength is how many bytes the name takes that bytes begin with; 0, if they begin with none.
func nameLength(s string) int {
	if s == "" || !isLetter(s[0]) {
		return 0
	}
	return run(s, isInName)
}

// fits tells whether a name is there, and not too long.
func fits(name string) bool {
	return name != "" && len(name) <= api.MaxName
}

func firstNumber(s string) (Token, int, api.Errno) {
	n := numberLength(s)
	v, e := num.Parse(s[:n])
	if e != api.OK {
		return Token{}, 0, e
	}
	return Token{Kind: Number, Text: s[:n], Num: v}, n, api.OK
}

// numberLength is how many bytes the number takes that bytes begin with. A point, or an e, belongs to it only where digits are behind that.
func numberLength(s string) int {
	n := run(s, isDigit)
	n += fractionLength(s[n:])
	return n + powerLength(s[n:])
}

func fractionLength(s string) int {
	if s == "" || s[0] != '.' {
		return 0
	}
	n := run(s[1:], isDigit)
	if n == 0 {
		return 0
	}
	return 1 + n
}

func powerLength(s string) int {
	if s == "" || s[0] != 'e' && s[0] != 'E' {
		return 0
	}
	ahead := 1
	if len(s) > 1 && (s[1] == '+' || s[1] == '-') {
		ahead = 2
	}
	n := run(s[ahead:], isDigit)
	if n == 0 {
		return 0
	}
	return ahead + n
}

func firstString(s string) (Token, int, api.Errno) {
	n := stringLength(s)
	if n == 0 {
		return Token{}, 0, api.ErrSyntax
	}
	text, e := utf.Unquote(s[:n])
	if e == api.ErrForm {
		e = api.ErrSyntax
	}
	if e != api.OK {
		return Token{}, 0, e
	}
	return Token{Kind: String, Text: text}, n, api.OK
}

// stringLength is how many bytes the string takes that bytes begin with, up to its second "; 0, if it doesn't end.
func stringLength(s string) int {
	for i := 1; i < len(s); i++ {
		switch s[i] {
		case '\\':
			// What is behind it doesn't end the string, be it a " or another \.
			i++
		case '"':
			return i + 1
		}
	}
	return 0
}

func firstSign(s string) (Token, int, api.Errno) {
	n := signLength(s)
	if n == 0 {
		return Token{}, 0, api.ErrSyntax
	}
	return Token{Kind: Sign, Text: s[:n]}, n, api.OK
}

// signLength is how many bytes the sign takes that bytes, at least one, begin with; 0, if they begin with none.
func signLength(s string) int {
	switch s[:min(len(s), 2)] {
	case "//", "==", "!=", "<=", ">=":
		return 2
	}
	if strings.IndexByte(".|,<>+-*/%()[]{}:;", s[0]) < 0 {
		return 0
	}
	return 1
}

// run is how many bytes at the front are such.
func run(s string, such func(byte) bool) int {
	n := 0
	for n < len(s) && such(s[n]) {
		n++
	}
	return n
}

func isLetter(b byte) bool {
	return b >= 'a' && b <= 'z' || b >= 'A' && b <= 'Z' || b == '_'
}

func isDigit(b byte) bool { return b >= '0' && b <= '9' }

func isInName(b byte) bool { return isLetter(b) || isDigit(b) }
