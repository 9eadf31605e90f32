package lex_test

import (
	"math/rand"
	"regexp"
	"slices"
	"strings"
	"testing"

	"keyhole/api"
	"keyhole/lex"
	"keyhole/num"
	"keyhole/utf"
)

// shapes are how tokens look, by chapter 13's words: of each kind its tokens, as long as can be.
var shapes = []struct {
	kind int
	look *regexp.Regexp
}{
	{lex.Name, regexp.MustCompile(`^[a-zA-Z_][a-zA-Z_0-9]*`)},
	{lex.Var, regexp.MustCompile(`^\$[a-zA-Z_][a-zA-Z_0-9]*`)},
	{lex.Number, regexp.MustCompile(`^[0-9]+(?:\.[0-9]+)?(?:[eE][+-]?[0-9]+)?`)},
	{lex.String, regexp.MustCompile(`(?s)^"(?:[^"\\]|\\.)*"`)},
	{lex.Sign, regexp.MustCompile(`^(?://|==|!=|<=|>=|[.|,<>+*/%()\[\]{}:;-])`)},
}

var blank = regexp.MustCompile(`^(?:[\t\n\r ]|#[^\n]*)*`)

// nought tells a number with a nought ahead, which RFC 8259 doesn't have.
var nought = regexp.MustCompile(`^0[0-9]`)

// modelTokens is what Tokens ought to answer.
func modelTokens(q string) ([]lex.Token, int, api.Errno) {
	if len(q) > api.MaxQuery {
		return nil, 0, api.ErrLong
	}
	var out []lex.Token
	for at := 0; ; {
		at += len(blank.FindString(q[at:]))
		if at == len(q) {
			return append(out, lex.Token{Kind: lex.End, At: at}), 0, api.OK
		}
		t, n, e := modelToken(q[at:])
		if e != api.OK {
			return nil, at, e
		}
		t.At = at
		out = append(out, t)
		at += n
	}
}

func modelToken(s string) (lex.Token, int, api.Errno) {
	for _, x := range shapes {
		text := x.look.FindString(s)
		if text == "" {
			continue
		}
		t, e := modelMeaning(lex.Token{Kind: x.kind, Text: text})
		return t, len(text), e
	}
	return lex.Token{}, 0, api.ErrSyntax
}

// modelMeaning is a token whose text is still as it looks, with what it stands for.
func modelMeaning(t lex.Token) (lex.Token, api.Errno) {
	switch t.Kind {
	case lex.Name, lex.Var:
		t.Text = strings.TrimPrefix(t.Text, "$")
		if len(t.Text) > 16 {
			return t, api.ErrSyntax
		}
	case lex.Number:
		if nought.MatchString(t.Text) {
			return t, api.ErrForm
		}
		var e api.Errno
		t.Num, e = num.Parse(t.Text)
		if e != api.OK {
			return t, api.ErrNum
		}
	case lex.String:
		text, e := utf.Unquote(t.Text)
		if e == api.ErrForm {
			return t, api.ErrSyntax
		}
		t.Text = text
		return t, e
	}
	return t, api.OK
}

func wantLikeModel(t *testing.T, q string) api.Errno {
	t.Helper()
	got, at, e := lex.Tokens(q)
	want, wat, we := modelTokens(q)
	if e != we || at != wat || !slices.Equal(got, want) {
		t.Errorf("Tokens(%q) is %v, %d at %d, not %v, %d at %d", q, got, e, at, want, we, wat)
	}
	return e
}

// TestModel: the model itself goes by the lists of what is right and wrong.
func TestModel(t *testing.T) {
	for _, x := range right {
		got, _, e := modelTokens(x.q)
		if e != api.OK || !slices.Equal(got, ended(x.q, x.tokens)) {
			t.Errorf("the model tells %v, %d of %q", got, e, x.q)
		}
	}
	for _, x := range wrong {
		if _, at, e := modelTokens(x.q); at != x.at || e != x.e {
			t.Errorf("the model tells %d at %d of %q", e, at, x.q)
		}
	}
}

// rows are all rows of just so many of these, put one behind the other.
func rows(from []string, n int) []string {
	out := []string{""}
	for range n {
		var longer []string
		for _, row := range out {
			for _, s := range from {
				longer = append(longer, row+s)
			}
		}
		out = longer
	}
	return out
}

// single are all bytes, each a text.
func single() []string {
	var out []string
	for b := range 256 {
		out = append(out, string([]byte{byte(b)}))
	}
	return out
}

// Promise 13.1: Tokens of all rows of two bytes, and of each byte at any place of tokens.
func TestTokensOfAllBytes(t *testing.T) {
	for _, s := range append(rows(single(), 1), rows(single(), 2)...) {
		wantLikeModel(t, s)
	}
	heads := []string{"", " ", "a", "_", "Z9", "$", "$a", "$_9", "0", "1", "12", "1.", "1.5", "1e", "1E", "1e+", "1e-", "1e1", "1.5e", "1.5E-", `"`, `"a`, `"\`, `"\\`, `"\u00`, `"\u004`, "#", "#a\n", "<", "=", "!", "/", ">", "==", "//", ".", "a.", "abcdefghijklmnop", "$abcdefghijklmnop"}
	tails := []string{"", " ", "a", "1", "=", "/", `"`, `"x`, ".5", "\n", "\n1", "\n\""}
	for _, s := range single() {
		for _, head := range heads {
			for _, tail := range tails {
				wantLikeModel(t, head+s+tail)
			}
		}
	}
}

// Promise 13.1: Tokens of all short rows of parts.
func TestTokensOfShortRows(t *testing.T) {
	for _, from := range [][]string{
		{"a", "_", "7", "$", ".", " ", "e", "="},
		{"0", "1", "9", ".", "e", "E", "+", "-", "_"},
		{`"`, `\`, "u", "d8", "00", "n", "\n", "#", "\xc3", "\xa9"},
		{"/", "=", "!", "<", ">", ".", "|", "a"},
		{"#", "\n", "\r", "\t", " ", "\"", "a", "\\"},
	} {
		for n := range 6 {
			for _, row := range rows(from, n) {
				wantLikeModel(t, row)
			}
		}
	}
}

// pieces are what queries are made of, right and wrong.
var pieces = []string{
	"a", "_", "if", "end", "true", "e", "E5", "abcdefghijklmnop", "abcdefghijklmnopq", "$a", "$", "$if", "$_9", "$abcdefghijklmnop", "$abcdefghijklmnopq", "$1",
	"0", "1", "42", "007", "1.5", ".5", "5.", "1e3", "1E-3", "1e+", "1e-10", "1e15", "999999999999999", "1000000000000000", "0e999",
	`""`, `"a"`, `"\""`, `"\\"`, `"#"`, `" "`, `"\u00e9"`, `"\ud834\udd1e"`, `"\ud834"`, "\"\xff\"", "\"\n\"", `"\x"`, `"`, `"\`, "\"\u20ac\"",
	"//", "==", "!=", "<=", ">=", ".", "|", ",", "<", ">", "+", "-", "*", "/", "%", "(", ")", "[", "]", "{", "}", ":", ";", "=", "!", "&", "?", "\\", "'", "@", "\u00e9", "\x00", "\x7f", "\v", "\f",
	" ", "  ", "\t", "\n", "\r\n", "#", "# a\n", "#\r", "#\"\n", "##\n\n",
}

// Promise 13.1: Tokens of many queries, against the model, and P1.
func TestTokensLikeModel(t *testing.T) {
	r := rand.New(rand.NewSource(13))
	told := map[api.Errno]int{}
	for range 200000 {
		s := ""
		for range r.Intn(9) {
			s += pieces[r.Intn(len(pieces))]
		}
		told[wantLikeModel(t, s)]++
	}
	for range 20000 {
		b := make([]byte, r.Intn(12))
		r.Read(b)
		wantLikeModel(t, string(b))
	}
	for _, e := range []api.Errno{api.OK, api.ErrSyntax, api.ErrUtf, api.ErrForm, api.ErrNum} {
		if told[e] < 1000 {
			t.Errorf("%d was told only %d times", e, told[e])
		}
	}
}

// Promise 13.1: Tokens of long queries, at and around how long one may be.
func TestTokensOfLongOnesLikeModel(t *testing.T) {
	r := rand.New(rand.NewSource(131))
	for range 2000 {
		s := ""
		for len(s) < api.MaxQuery-20 {
			p := pieces[r.Intn(len(pieces))]
			if _, _, e := modelTokens(s + " " + p); e == api.OK {
				s += strings.Repeat(" ", 1+r.Intn(400)) + p
			}
			if strings.Contains(s[strings.LastIndex(s, "\n")+1:], "#") {
				s += "\n"
			}
		}
		for n := api.MaxQuery - 2; n < api.MaxQuery+3; n++ {
			if n >= len(s) {
				wantLikeModel(t, s+strings.Repeat("+", n-len(s)))
				wantLikeModel(t, strings.Repeat("\n", n-len(s))+s)
			}
		}
	}
}

// named are names and what are none, for Ident and Key.
var named = regexp.MustCompile(`^[a-zA-Z_][a-zA-Z_0-9]{0,15}$`)

// Promise 13.2: Ident and Key of all short rows of bytes, and of what was made of key words.
func TestIdentAndKeyLikeModel(t *testing.T) {
	all := append(rows(single(), 1), rows(single(), 2)...)
	all = append(all, rows([]string{"a", "s", "i", "f", "o", "r", "e", "n", "d", "_", "1", " "}, 4)...)
	for _, k := range keys {
		for _, s := range single() {
			all = append(all, k+s, s+k)
			for i := range len(k) {
				all = append(all, k[:i]+s+k[i:], k[:i]+s+k[i+1:])
			}
		}
	}
	for _, s := range all {
		key := slices.Contains(keys, s)
		if lex.Key(s) != key {
			t.Errorf("Key(%q) is %v", s, !key)
		}
		name := named.MatchString(s) && !strings.HasSuffix(s, "\n") && !key
		if lex.Ident(s) != name {
			t.Errorf("Ident(%q) is %v", s, !name)
		}
	}
}
