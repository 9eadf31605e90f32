package lex_test

import (
	"math/rand"
	"slices"
	"strings"
	"testing"

	"keyhole/api"
	"keyhole/lex"
)

// keys are the key words.
var keys = []string{"def", "if", "then", "else", "end", "try", "catch", "reduce", "foreach", "as", "label", "break", "and", "or", "true", "false", "null", "empty", "release", "range"}

// signs are all signs, the longer ones first.
var signs = []string{"//", "==", "!=", "<=", ">=", ".", "|", ",", "<", ">", "+", "-", "*", "/", "%", "(", ")", "[", "]", "{", "}", ":", ";"}

func name(at int, s string) lex.Token     { return lex.Token{Kind: lex.Name, Text: s, At: at} }
func variable(at int, s string) lex.Token { return lex.Token{Kind: lex.Var, Text: s, At: at} }
func str(at int, s string) lex.Token      { return lex.Token{Kind: lex.String, Text: s, At: at} }
func sign(at int, s string) lex.Token     { return lex.Token{Kind: lex.Sign, Text: s, At: at} }

func number(at int, s string, coef int64, scale int) lex.Token {
	return lex.Token{Kind: lex.Number, Text: s, Num: api.Num{Coef: coef, Scale: scale}, At: at}
}

type tokens = []lex.Token

// ended is a query's tokens with the one at the end.
func ended(q string, l tokens) tokens {
	return append(slices.Clone(l), lex.Token{Kind: lex.End, At: len(q)})
}

// right are queries with their tokens, but for the one at the end.
var right = []struct {
	q      string
	tokens tokens
}{
	{"", nil},
	{".a|1.5", tokens{sign(0, "."), name(1, "a"), sign(2, "|"), number(3, "1.5", 15, 1)}},

	// Names.
	{"a", tokens{name(0, "a")}},
	{"_", tokens{name(0, "_")}},
	{"azAZ_09", tokens{name(0, "azAZ_09")}},
	{"__0__", tokens{name(0, "__0__")}},
	{"Z", tokens{name(0, "Z")}},
	{"if", tokens{name(0, "if")}},
	{"ifa", tokens{name(0, "ifa")}},
	{"if then", tokens{name(0, "if"), name(3, "then")}},
	{"a b", tokens{name(0, "a"), name(2, "b")}},
	{"a.b", tokens{name(0, "a"), sign(1, "."), name(2, "b")}},
	{"a-b", tokens{name(0, "a"), sign(1, "-"), name(2, "b")}},
	{"abcdefghijklmno", tokens{name(0, "abcdefghijklmno")}},
	{"abcdefghijklmnop", tokens{name(0, "abcdefghijklmnop")}},
	{"abcdefghijklmnop q", tokens{name(0, "abcdefghijklmnop"), name(17, "q")}},
	{"_234567890123456", tokens{name(0, "_234567890123456")}},

	// Variables.
	{"$a", tokens{variable(0, "a")}},
	{"$_", tokens{variable(0, "_")}},
	{"$Z9_", tokens{variable(0, "Z9_")}},
	{"$if", tokens{variable(0, "if")}},
	{"$a$b", tokens{variable(0, "a"), variable(2, "b")}},
	{"a$b", tokens{name(0, "a"), variable(1, "b")}},
	{"1$b", tokens{number(0, "1", 1, 0), variable(1, "b")}},
	{"$a.b", tokens{variable(0, "a"), sign(2, "."), name(3, "b")}},
	{"$abcdefghijklmno", tokens{variable(0, "abcdefghijklmno")}},
	{"$abcdefghijklmnop", tokens{variable(0, "abcdefghijklmnop")}},

	// Numbers.
	{"0", tokens{number(0, "0", 0, 0)}},
	{"7", tokens{number(0, "7", 7, 0)}},
	{"1234567890", tokens{number(0, "1234567890", 1234567890, 0)}},
	{"100", tokens{number(0, "100", 100, 0)}},
	{"1.50", tokens{number(0, "1.50", 15, 1)}},
	{"0.000000001", tokens{number(0, "0.000000001", 1, 9)}},
	{"1e3", tokens{number(0, "1e3", 1000, 0)}},
	{"1E3", tokens{number(0, "1E3", 1000, 0)}},
	{"1e+3", tokens{number(0, "1e+3", 1000, 0)}},
	{"1E-3", tokens{number(0, "1E-3", 1, 3)}},
	{"1.50e1", tokens{number(0, "1.50e1", 15, 0)}},
	{"0.5e-8", tokens{number(0, "0.5e-8", 5, 9)}},
	{"1e003", tokens{number(0, "1e003", 1000, 0)}},
	{"0.0", tokens{number(0, "0.0", 0, 0)}},
	{"0e9999", tokens{number(0, "0e9999", 0, 0)}},
	{"999999999999999", tokens{number(0, "999999999999999", 999999999999999, 0)}},
	{"1e14", tokens{number(0, "1e14", 100000000000000, 0)}},
	{"1.", tokens{number(0, "1", 1, 0), sign(1, ".")}},
	{"1..", tokens{number(0, "1", 1, 0), sign(1, "."), sign(2, ".")}},
	{"1..5", tokens{number(0, "1", 1, 0), sign(1, "."), sign(2, "."), number(3, "5", 5, 0)}},
	{"1.5.5", tokens{number(0, "1.5", 15, 1), sign(3, "."), number(4, "5", 5, 0)}},
	{"1.a", tokens{number(0, "1", 1, 0), sign(1, "."), name(2, "a")}},
	{"1.e5", tokens{number(0, "1", 1, 0), sign(1, "."), name(2, "e5")}},
	{"1. 5", tokens{number(0, "1", 1, 0), sign(1, "."), number(3, "5", 5, 0)}},
	{".5", tokens{sign(0, "."), number(1, "5", 5, 0)}},
	{"1e", tokens{number(0, "1", 1, 0), name(1, "e")}},
	{"1E", tokens{number(0, "1", 1, 0), name(1, "E")}},
	{"1e+", tokens{number(0, "1", 1, 0), name(1, "e"), sign(2, "+")}},
	{"1e-", tokens{number(0, "1", 1, 0), name(1, "e"), sign(2, "-")}},
	{"1e+-5", tokens{number(0, "1", 1, 0), name(1, "e"), sign(2, "+"), sign(3, "-"), number(4, "5", 5, 0)}},
	{"1e 5", tokens{number(0, "1", 1, 0), name(1, "e"), number(3, "5", 5, 0)}},
	{"1e5e5", tokens{number(0, "1e5", 100000, 0), name(3, "e5")}},
	{"1e5.5", tokens{number(0, "1e5", 100000, 0), sign(3, "."), number(4, "5", 5, 0)}},
	{"1.5e", tokens{number(0, "1.5", 15, 1), name(3, "e")}},
	{"1.5e+x", tokens{number(0, "1.5", 15, 1), name(3, "e"), sign(4, "+"), name(5, "x")}},
	{"1a", tokens{number(0, "1", 1, 0), name(1, "a")}},
	{"1_0", tokens{number(0, "1", 1, 0), name(1, "_0")}},
	{"0x10", tokens{number(0, "0", 0, 0), name(1, "x10")}},
	{"-1", tokens{sign(0, "-"), number(1, "1", 1, 0)}},
	{"+1", tokens{sign(0, "+"), number(1, "1", 1, 0)}},
	{"1-1", tokens{number(0, "1", 1, 0), sign(1, "-"), number(2, "1", 1, 0)}},
	{"1 2", tokens{number(0, "1", 1, 0), number(2, "2", 2, 0)}},
	{"0 0", tokens{number(0, "0", 0, 0), number(2, "0", 0, 0)}},

	// Strings.
	{`""`, tokens{str(0, "")}},
	{`"a"`, tokens{str(0, "a")}},
	{`"a b#c$d"`, tokens{str(0, "a b#c$d")}},
	{`"a""b"`, tokens{str(0, "a"), str(3, "b")}},
	{`"\""`, tokens{str(0, `"`)}},
	{`"\\"`, tokens{str(0, `\`)}},
	{`"\\\""`, tokens{str(0, `\"`)}},
	{`"\\\\"`, tokens{str(0, `\\`)}},
	{`"\\" "\\\\"`, tokens{str(0, `\`), str(5, `\\`)}},
	{`"\/\b\f\n\r\t"`, tokens{str(0, "/\b\f\n\r\t")}},
	{`"\u0041\u00e9\u20AC\ud834\uDD1E\u0000"`, tokens{str(0, "A\u00e9\u20ac\U0001d11e\x00")}},
	{"\"\u00e9\u20ac\U0001d11e\x7f\"", tokens{str(0, "\u00e9\u20ac\U0001d11e\x7f")}},
	{`"if"`, tokens{str(0, "if")}},
	{`"1"`, tokens{str(0, "1")}},
	{`"a"b`, tokens{str(0, "a"), name(3, "b")}},
	{`a"b"`, tokens{name(0, "a"), str(1, "b")}},
	{`."a"`, tokens{sign(0, "."), str(1, "a")}},
	{`"abcdefghijklmnopqrstuvwxyz"`, tokens{str(0, "abcdefghijklmnopqrstuvwxyz")}},

	// Signs.
	{"///", tokens{sign(0, "//"), sign(2, "/")}},
	{"////", tokens{sign(0, "//"), sign(2, "//")}},
	{"/ /", tokens{sign(0, "/"), sign(2, "/")}},
	{"====", tokens{sign(0, "=="), sign(2, "==")}},
	{"!===", tokens{sign(0, "!="), sign(2, "==")}},
	{"<=>=", tokens{sign(0, "<="), sign(2, ">=")}},
	{"<<=", tokens{sign(0, "<"), sign(1, "<=")}},
	{"<>", tokens{sign(0, "<"), sign(1, ">")}},
	{"..", tokens{sign(0, "."), sign(1, ".")}},
	{"||", tokens{sign(0, "|"), sign(1, "|")}},
	{"{a:[1,$b]}", tokens{sign(0, "{"), name(1, "a"), sign(2, ":"), sign(3, "["), number(4, "1", 1, 0), sign(5, ","), variable(6, "b"), sign(8, "]"), sign(9, "}")}},

	// Blanks.
	{" ", nil},
	{"\t\n\r ", nil},
	{"#", nil},
	{"# a $ \" 01 \xff \x00", nil},
	{"#\n", nil},
	{"#\n#", nil},
	{"a#b", tokens{name(0, "a")}},
	{"a#b\nc", tokens{name(0, "a"), name(4, "c")}},
	{"a#b\rc", tokens{name(0, "a")}},
	{"a#b\r\nc", tokens{name(0, "a"), name(5, "c")}},
	{"a##b\n c#", tokens{name(0, "a"), name(6, "c")}},
	{"#a\n#b\n\n1", tokens{number(7, "1", 1, 0)}},
	{"#\"\na#\"\n", tokens{name(3, "a")}},
	{"$a#\n", tokens{variable(0, "a")}},
	{"1#\n.5", tokens{number(0, "1", 1, 0), sign(3, "."), number(4, "5", 5, 0)}},
	{"/#\n/", tokens{sign(0, "/"), sign(3, "/")}},
	{"  a\t", tokens{name(2, "a")}},
}

// wrong are queries with the place and the error of their first wrong token.
var wrong = []struct {
	q  string
	at int
	e  api.Errno
}{
	// No token begins there.
	{"=", 0, api.ErrSyntax},
	{"!", 0, api.ErrSyntax},
	{"! =", 0, api.ErrSyntax},
	{"=>", 0, api.ErrSyntax},
	{"===", 2, api.ErrSyntax},
	{"a=b", 1, api.ErrSyntax},
	{"a = b", 2, api.ErrSyntax},
	{"a != = b", 5, api.ErrSyntax},
	{"&", 0, api.ErrSyntax},
	{"?", 0, api.ErrSyntax},
	{"'a'", 0, api.ErrSyntax},
	{"`", 0, api.ErrSyntax},
	{"@", 0, api.ErrSyntax},
	{"^", 0, api.ErrSyntax},
	{"~", 0, api.ErrSyntax},
	{`\`, 0, api.ErrSyntax},
	{`\"a"`, 0, api.ErrSyntax},
	{"\x00", 0, api.ErrSyntax},
	{"\v", 0, api.ErrSyntax},
	{"\f", 0, api.ErrSyntax},
	{"\x7f", 0, api.ErrSyntax},
	{"\u00a0", 0, api.ErrSyntax},
	{"\u00e9", 0, api.ErrSyntax},
	{"a\u00e9", 1, api.ErrSyntax},
	{"\ufeffa", 0, api.ErrSyntax},
	{"\xff", 0, api.ErrSyntax},
	{"1\u0661", 1, api.ErrSyntax},
	{"a\nb\n  ?", 6, api.ErrSyntax},
	{"#?\n ?", 4, api.ErrSyntax},
	{"# a\n\u00e9", 4, api.ErrSyntax},

	// Variables without a name.
	{"$", 0, api.ErrSyntax},
	{"$ a", 0, api.ErrSyntax},
	{"$1", 0, api.ErrSyntax},
	{"$$a", 0, api.ErrSyntax},
	{"$#\na", 0, api.ErrSyntax},
	{`$"a"`, 0, api.ErrSyntax},
	{"$a$", 2, api.ErrSyntax},
	{".$.", 1, api.ErrSyntax},

	// Names that are too long.
	{"abcdefghijklmnopq", 0, api.ErrSyntax},
	{"_2345678901234567", 0, api.ErrSyntax},
	{".abcdefghijklmnopq", 1, api.ErrSyntax},
	{"$abcdefghijklmnopq", 0, api.ErrSyntax},
	{"a $abcdefghijklmnopq", 2, api.ErrSyntax},
	{"a abcdefghijklmnopq ?", 2, api.ErrSyntax},

	// Strings.
	{`"`, 0, api.ErrSyntax},
	{`"a`, 0, api.ErrSyntax},
	{`"a\"`, 0, api.ErrSyntax},
	{`"a\`, 0, api.ErrSyntax},
	{`"\\\"`, 0, api.ErrSyntax},
	{`"\\"\\"`, 4, api.ErrSyntax},
	{`"\\"a"`, 5, api.ErrSyntax},
	{`"\\" "`, 5, api.ErrSyntax},
	{"\"#\n\"", 0, api.ErrSyntax},
	{`a "`, 2, api.ErrSyntax},
	{`"a" "b`, 4, api.ErrSyntax},
	{`"""`, 2, api.ErrSyntax},
	{"\"\xff", 0, api.ErrSyntax},
	{`"\ud834`, 0, api.ErrSyntax},
	{"\"a\nb\"", 0, api.ErrSyntax},
	{"\"\x00\"", 0, api.ErrSyntax},
	{"\"\t\"", 0, api.ErrSyntax},
	{"\"\x1f\"", 0, api.ErrSyntax},
	{`"\x"`, 0, api.ErrSyntax},
	{`"\u12"`, 0, api.ErrSyntax},
	{`"\u00g0"`, 0, api.ErrSyntax},
	{`"\U0041"`, 0, api.ErrSyntax},
	{`"\'"`, 0, api.ErrSyntax},
	{"\"\xff\n\"", 0, api.ErrSyntax},
	{`"\ud834\x"`, 0, api.ErrSyntax},
	{"\"\xff\"", 0, api.ErrUtf},
	{"\"\xc3\"", 0, api.ErrUtf},
	{"\"\xed\xa0\x80\"", 0, api.ErrUtf},
	{"a|\"\xc0\x80\"", 2, api.ErrUtf},
	{`"\ud834"`, 0, api.ErrUtf},
	{`"\udd1e\ud834"`, 0, api.ErrUtf},
	{`"\ud834a" ?`, 0, api.ErrUtf},
	{`"a" "\ud834"`, 4, api.ErrUtf},

	// Numbers.
	{"00", 0, api.ErrForm},
	{"01", 0, api.ErrForm},
	{"007", 0, api.ErrForm},
	{"01.5", 0, api.ErrForm},
	{"00.5", 0, api.ErrForm},
	{"00e1", 0, api.ErrForm},
	{"01e99", 0, api.ErrForm},
	{"0100000000000000000", 0, api.ErrForm},
	{"-01", 1, api.ErrForm},
	{"1 00", 2, api.ErrForm},
	{"1.5 . 05", 6, api.ErrForm},
	{"1.5.05", 4, api.ErrForm},
	{"01?", 0, api.ErrForm},
	{"1e-10", 0, api.ErrNum},
	{"1e15", 0, api.ErrNum},
	{"1000000000000000", 0, api.ErrNum},
	{"0.0000000001", 0, api.ErrNum},
	{"9999999999999.999", 0, api.ErrNum},
	{"1e99999999999999999999", 0, api.ErrNum},
	{"1e-99999999999999999999", 0, api.ErrNum},
	{"a[1e15]", 2, api.ErrNum},
	{"1e15 01", 0, api.ErrNum},

	// The first one that is wrong is told, whatever is wrong further on.
	{"? 01", 0, api.ErrSyntax},
	{"01 ?", 0, api.ErrForm},
	{"1e99 \"\xff\"", 0, api.ErrNum},
	{"\"\xff\" 1e99", 0, api.ErrUtf},
	{"a 1e99 01 \"\xff\" ?", 2, api.ErrNum},
	{"a \"\xff\" \"", 2, api.ErrUtf},
}

func wantTokens(t *testing.T, q string, want tokens) {
	t.Helper()
	got, at, e := lex.Tokens(q)
	if e != api.OK || at != 0 || !slices.Equal(got, ended(q, want)) {
		t.Errorf("Tokens(%q) is %v, %d at %d, not %v", q, got, e, at, ended(q, want))
	}
}

func wantWrong(t *testing.T, q string, at int, e api.Errno) {
	t.Helper()
	if got, gat, ge := lex.Tokens(q); ge != e || gat != at || len(got) != 0 {
		t.Errorf("Tokens(%q) is %v, %d at %d, not %d at %d", q, got, ge, gat, e, at)
	}
}

// TestKinds: the kinds are those that the chapter numbers, and a place, a number and a kind are what other layers read.
func TestKinds(t *testing.T) {
	got := []int{lex.Name, lex.Var, lex.Number, lex.String, lex.Sign, lex.End}
	if !slices.Equal(got, []int{1, 2, 3, 4, 5, 6}) {
		t.Errorf("the kinds are %v", got)
	}
}

// Promise 13.1: what is right.

func TestTokens(t *testing.T) {
	for _, x := range right {
		wantTokens(t, x.q, x.tokens)
	}
}

func TestTokensOfEachKeyWord(t *testing.T) {
	for _, k := range keys {
		wantTokens(t, k, tokens{name(0, k)})
		wantTokens(t, "$"+k, tokens{variable(0, k)})
		wantTokens(t, "."+k+"_", tokens{sign(0, "."), name(1, k+"_")})
	}
}

func TestTokensOfEachSign(t *testing.T) {
	if len(signs) != 23 {
		t.Fatalf("there are %d signs", len(signs))
	}
	for _, s := range signs {
		wantTokens(t, s, tokens{sign(0, s)})
		wantTokens(t, "a"+s+"$b", tokens{name(0, "a"), sign(1, s), variable(1+len(s), "b")})
		for _, z := range signs {
			wantTokens(t, s+" "+z, tokens{sign(0, s), sign(len(s)+1, z)})
			if len(s) == 2 {
				wantTokens(t, s+z, tokens{sign(0, s), sign(2, z)})
			}
		}
	}
}

func TestTokensOfTwoOneByteSigns(t *testing.T) {
	for _, s := range signs[5:] {
		for _, z := range signs[5:] {
			if s+z == "//" {
				wantTokens(t, s+z, tokens{sign(0, "//")})
			} else {
				wantTokens(t, s+z, tokens{sign(0, s), sign(1, z)})
			}
		}
		if s == "<" || s == ">" {
			wantTokens(t, s+"=", tokens{sign(0, s+"=")})
		} else {
			wantWrong(t, s+"=", 1, api.ErrSyntax)
		}
		wantWrong(t, s+"!", 1, api.ErrSyntax)
	}
}

func TestTokensOfEachByte(t *testing.T) {
	for b := range 256 {
		s := string([]byte{byte(b)})
		switch {
		case b >= 'a' && b <= 'z' || b >= 'A' && b <= 'Z' || b == '_':
			wantTokens(t, s, tokens{name(0, s)})
			wantTokens(t, "$"+s, tokens{variable(0, s)})
			wantTokens(t, "x"+s, tokens{name(0, "x"+s)})
		case b >= '0' && b <= '9':
			wantTokens(t, s, tokens{number(0, s, int64(b-'0'), 0)})
			wantTokens(t, "x"+s, tokens{name(0, "x"+s)})
			wantTokens(t, "$x"+s, tokens{variable(0, "x"+s)})
		case slices.Contains(signs, s):
			wantTokens(t, s, tokens{sign(0, s)})
			wantTokens(t, "x"+s+"x", tokens{name(0, "x"), sign(1, s), name(2, "x")})
		case b == 9 || b == 10 || b == 13 || b == 32:
			wantTokens(t, s, nil)
			wantTokens(t, "x"+s+"x", tokens{name(0, "x"), name(2, "x")})
		case b == '#':
			wantTokens(t, "x"+s+"x", tokens{name(0, "x")})
		default:
			wantWrong(t, s, 0, api.ErrSyntax)
			wantWrong(t, "x"+s, 1, api.ErrSyntax)
		}
		if b != '"' && b != '\\' && b >= 32 && b < 128 {
			wantTokens(t, `"`+s+`"`, tokens{str(0, s)})
		}
		if b != 10 {
			// Whatever is behind a # is a blank, up to the end of the line.
			wantTokens(t, "x#"+s+"?\nz", tokens{name(0, "x"), name(5, "z")})
		}
	}
}

func TestTokensOfLongNames(t *testing.T) {
	for n := 1; n < 40; n++ {
		s := strings.Repeat("aZ_9", n)[:n]
		if n <= 16 {
			wantTokens(t, s, tokens{name(0, s)})
			wantTokens(t, "$"+s+" $"+s, tokens{variable(0, s), variable(n+2, s)})
			continue
		}
		wantWrong(t, s, 0, api.ErrSyntax)
		wantWrong(t, ". $"+s, 2, api.ErrSyntax)
		wantWrong(t, "12 "+s+" ?", 3, api.ErrSyntax)
	}
	wantWrong(t, strings.Repeat("a", api.MaxQuery), 0, api.ErrSyntax)
	wantWrong(t, "$"+strings.Repeat("a", api.MaxQuery-1), 0, api.ErrSyntax)
}

func TestTokensOfLongNumbers(t *testing.T) {
	noughts := strings.Repeat("0", 1000)
	wantTokens(t, "1."+noughts, tokens{number(0, "1."+noughts, 1, 0)})
	wantTokens(t, "0."+noughts+"1e1001", tokens{number(0, "0."+noughts+"1e1001", 1, 0)})
	wantTokens(t, "1"+noughts+"e-1000", tokens{number(0, "1"+noughts+"e-1000", 1, 0)})
	wantTokens(t, "1e"+noughts+"2", tokens{number(0, "1e"+noughts+"2", 100, 0)})
	wantWrong(t, noughts, 0, api.ErrForm)
	wantWrong(t, "1"+noughts, 0, api.ErrNum)
	wantWrong(t, "1."+noughts+"1", 0, api.ErrNum)
}

func TestTokensOfRowsOfBackslashes(t *testing.T) {
	for n := range 20 {
		row := strings.Repeat(`\`, n)
		if n%2 == 0 {
			wantTokens(t, `"`+row+`"`, tokens{str(0, row[:n/2])})
			wantWrong(t, `"`+row+`""`, n+2, api.ErrSyntax)
		} else {
			wantWrong(t, `"`+row+`"`, 0, api.ErrSyntax)
			wantTokens(t, `"`+row+`""`, tokens{str(0, row[:n/2]+`"`)})
		}
	}
}

// Promise 13.1: what is too long.

func TestTokensOfLongQueries(t *testing.T) {
	for _, s := range []string{"+", " ", ".", "a ", "1 ", "$a ", "#\n", `"" `, "01", "?", "\xff", "$", `"`, "a", "\x00"} {
		long := strings.Repeat(s, api.MaxQuery+1)
		for _, n := range []int{api.MaxQuery + 1, api.MaxQuery + 2, 2 * api.MaxQuery, len(long)} {
			if n <= len(long) {
				wantWrong(t, long[:n], 0, api.ErrLong)
			}
		}
		if _, _, e := lex.Tokens(long[:api.MaxQuery]); e == api.ErrLong {
			t.Errorf("so many %q are too long", s)
		}
	}
	wantWrong(t, "a"+strings.Repeat(" ", api.MaxQuery), 0, api.ErrLong)
	wantWrong(t, strings.Repeat(" ", api.MaxQuery)+"?", 0, api.ErrLong)
	wantWrong(t, strings.Repeat("a", 1<<24), 0, api.ErrLong)
	// Its signs are few enough, but not its bytes.
	wantWrong(t, `"`+strings.Repeat("\u20ac", api.MaxQuery/3)+`"`, 0, api.ErrLong)
}

func TestTokensAtTheBound(t *testing.T) {
	var all tokens
	for i := range api.MaxQuery {
		all = append(all, sign(i, "+"))
	}
	wantTokens(t, strings.Repeat("+", api.MaxQuery), all)
	wantTokens(t, strings.Repeat("+", api.MaxQuery-1), all[:api.MaxQuery-1])
	wantTokens(t, strings.Repeat(" ", api.MaxQuery), nil)
	wantTokens(t, "#"+strings.Repeat("?", api.MaxQuery-1), nil)
	wantTokens(t, strings.Repeat("\n", api.MaxQuery-1)+"a", tokens{name(api.MaxQuery-1, "a")})
	wantWrong(t, strings.Repeat("\n", api.MaxQuery-1)+"?", api.MaxQuery-1, api.ErrSyntax)
	a := strings.Repeat("a", api.MaxQuery-2)
	wantTokens(t, `"`+a+`"`, tokens{str(0, a)})
	wantWrong(t, `"`+a+`a`, 0, api.ErrSyntax)
}

// Promise 13.1: what is wrong.

func TestTokensThatAreWrong(t *testing.T) {
	for _, x := range wrong {
		wantWrong(t, x.q, x.at, x.e)
		// Tokens ahead of it, and whatever is behind it, turn nothing but the place.
		wantWrong(t, "a, 1\n"+x.q, 5+x.at, x.e)
		wantWrong(t, "#\n"+x.q, 2+x.at, x.e)
		for _, y := range wrong {
			// A string that doesn't end may do so now, but has the end of a line in it.
			wantWrong(t, x.q+"\n "+y.q, x.at, x.e)
		}
	}
}

func TestTokensOfRightAndWrongOnes(t *testing.T) {
	for _, x := range right {
		for _, y := range wrong {
			q := x.q + "\n" + y.q
			wantWrong(t, q, len(x.q)+1+y.at, y.e)
		}
	}
}

func TestTokensBesideEachOther(t *testing.T) {
	for _, x := range right {
		one, _, _ := lex.Tokens(x.q)
		for i := range one {
			one[i] = sign(-1, "changed")
		}
		wantTokens(t, x.q, x.tokens)
		_ = append(one, sign(-2, "changed"))
		wantTokens(t, x.q, x.tokens)
	}
}

// Promise 13.2: Ident and Key.

func wantIdent(t *testing.T, s string, want bool) {
	t.Helper()
	if lex.Ident(s) != want {
		t.Errorf("Ident(%q) is %v", s, !want)
	}
}

func wantKey(t *testing.T, s string, want bool) {
	t.Helper()
	if lex.Key(s) != want {
		t.Errorf("Key(%q) is %v", s, !want)
	}
}

func TestIdent(t *testing.T) {
	for _, s := range []string{"a", "z", "A", "Z", "_", "__", "a0", "_9", "azAZ_09", "abcdefghijklmnop", "_234567890123456", "not", "type", "length", "input", "elif", "nulls", "If", "END", "_if", "if_", "if1", "ranges", "rang"} {
		wantIdent(t, s, true)
		wantKey(t, s, false)
	}
	for _, s := range []string{
		"", "0", "9", "0a", "1", " ", " a", "a ", "a b", "a\n", "\na", "a\x00", "\x00", "$", "$a", "a$", ".", ".a", "a.b", "a-b", "-", "\"a\"", "a#", "#", "a,b", "(a)",
		"\u00e9", "a\u00e9", "\xff", "a\xff", "a\xc3", "\u0430", "a\u0661", "\uff41", "@", "[", "`", "{", "/", ":", "a@", "a[", "a`", "a{", "a/", "a:",
		"abcdefghijklmnopq", "_2345678901234567", "abcdefghijklmno\u00e9", "abcdefghijklmnop ", "abcdefghijklmnop\x00",
	} {
		wantIdent(t, s, false)
		wantKey(t, s, false)
	}
}

func TestIdentOfEachLength(t *testing.T) {
	for n := range 100 {
		wantIdent(t, strings.Repeat("a", n), n > 0 && n <= 16)
		wantIdent(t, strings.Repeat("_", n), n > 0 && n <= 16)
		wantIdent(t, "i"+strings.Repeat("0", n), n < 16)
	}
	for _, s := range []string{"a", "_", "if", "\xff", " ", "\u00e9"} {
		wantIdent(t, strings.Repeat(s, 1<<24), false)
		wantKey(t, strings.Repeat(s, 1<<24), false)
	}
}

func TestKey(t *testing.T) {
	if len(keys) != 20 {
		t.Fatalf("there are %d key words", len(keys))
	}
	for _, k := range keys {
		wantKey(t, k, true)
		wantIdent(t, k, false)
		for _, s := range []string{strings.ToUpper(k), strings.ToUpper(k[:1]) + k[1:], k[:len(k)-1], k[1:], k + "s", "_" + k, k + k} {
			wantKey(t, s, slices.Contains(keys, s))
			wantIdent(t, s, !slices.Contains(keys, s))
		}
		for _, s := range []string{" " + k, k + " ", k + "\n", k + "\x00", "$" + k, "." + k, k + "(", "\"" + k + "\""} {
			wantKey(t, s, false)
			wantIdent(t, s, false)
		}
	}
	for _, s := range signs {
		wantKey(t, s, false)
		wantIdent(t, s, false)
	}
}

// Promise 13.2: what is Ident is a token, and one alone.
func TestIdentIsAToken(t *testing.T) {
	for _, x := range right {
		got, _, _ := lex.Tokens(x.q)
		one := len(got) == 2 && got[0] == name(0, x.q)
		wantIdent(t, x.q, one && !slices.Contains(keys, x.q))
	}
	for _, x := range wrong {
		wantIdent(t, x.q, false)
		wantKey(t, x.q, false)
	}
}

// Promise 13.3: blanks between tokens turn nothing but places.

// apart are blanks that may stand between any two tokens.
var apart = []string{"", " ", "\t", "\n", "\r", "  \r\n\t", "#\n", "# a \" $ ? \xff\x00\r\n", "#1#2\n#3\n \n"}

// spread is a query with blanks put ahead of its tokens, and of its end, and its tokens where they then are.
func spread(q string, l tokens, blanks func() string) (string, tokens) {
	out, moved, from := "", tokens{}, 0
	for _, t := range l {
		out += q[from:t.At] + blanks()
		from = t.At
		t.At = len(out)
		moved = append(moved, t)
	}
	return out + q[from:], moved
}

func TestBlanksBetweenTokens(t *testing.T) {
	for _, x := range right {
		if strings.Contains(x.q, "#") {
			// Its end may be within blanks that go up to it.
			continue
		}
		for _, b := range apart {
			q, moved := spread(x.q, ended(x.q, x.tokens), func() string { return b })
			wantTokens(t, q, moved[:len(x.tokens)])
			if at := moved[len(x.tokens)].At; at != len(q) {
				t.Errorf("the end of %q was put at %d", q, at)
			}
		}
	}
	for _, b := range apart {
		for i := range right {
			wantTokens(t, b+right[i].q, spreadAhead(right[i].tokens, len(b)))
		}
		for _, x := range wrong {
			wantWrong(t, b+x.q, len(b)+x.at, x.e)
		}
	}
}

// spreadAhead is tokens, so many bytes further on.
func spreadAhead(l tokens, n int) tokens {
	out := slices.Clone(l)
	for i := range out {
		out[i].At += n
	}
	return out
}

func TestBlanksBetweenManyTokens(t *testing.T) {
	r := rand.New(rand.NewSource(133))
	some := func() string { return apart[r.Intn(len(apart))] }
	for range 20000 {
		q := ""
		for range 1 + r.Intn(8) {
			q += strings.ReplaceAll(pieces[r.Intn(len(pieces))], "#", "")
		}
		l, _, e := lex.Tokens(q)
		if e != api.OK {
			continue
		}
		spaced, moved := spread(q, l, some)
		wantTokens(t, spaced, moved[:len(l)-1])
	}
}
