package parse_test

import (
	"math/rand"
	"slices"
	"strings"
	"testing"

	"keyhole/api"
	"keyhole/lex"
	"keyhole/parse"
	"keyhole/tree"
)

// wantLikeModel holds Query against the model, and tells which token is the first one that no query goes on with, and the error; false, if the model takes too long.
func wantLikeModel(t *testing.T, q string) (int, api.Errno, bool) {
	t.Helper()
	want, far, ok := modelQuery(q)
	if !ok {
		return 0, 0, false
	}
	p, at, e := parse.Query(q)
	if e != want.e || at != want.at || e != api.OK && !samePrograms(p, api.Program{}) || e == api.OK && !samePrograms(p, want.program) {
		t.Errorf("Query(%q) is %s, %d at %d, not %s, %d at %d", q, shownProgram(p), e, at, shownProgram(want.program), want.e, want.at)
	}
	if e == api.OK {
		wantMayBe(t, q, p)
	}
	return far, e, true
}

// wantExprLikeModel likewise holds Expr.
func wantExprLikeModel(t *testing.T, q string) {
	t.Helper()
	want, _, ok := modelExpr(q)
	if !ok {
		return
	}
	x, at, e := parse.Expr(q)
	if e != want.e || at != want.at || !tree.Same(x, want.program.Main) && (e == api.OK || !tree.Same(x, api.Expr{})) {
		t.Errorf("Expr(%q) is %s, %d at %d, not %s, %d at %d", q, shown(x), e, at, shownProgram(want.program), want.e, want.at)
	}
}

// TestModel: the model itself goes by the lists of what is right and wrong.
func TestModel(t *testing.T) {
	for _, x := range right {
		a, _, ok := modelExpr(x.q)
		if !ok || a.e != api.OK || shown(a.program.Main) != x.want {
			t.Errorf("the model tells %s, %d at %d of %q", shown(a.program.Main), a.e, a.at, x.q)
		}
	}
	for _, x := range programs {
		a, _, ok := modelQuery(x.q)
		if !ok || a.e != api.OK || shownProgram(a.program) != x.want {
			t.Errorf("the model tells %s, %d at %d of %q", shownProgram(a.program), a.e, a.at, x.q)
		}
	}
	for _, x := range wrong {
		q, at := marked(x.q)
		if a, _, ok := modelQuery(q); !ok || a.at != at || a.e != x.e {
			t.Errorf("the model tells %d at %d of %q", a.e, a.at, q)
		}
	}
	for _, x := range wrongPrograms {
		q, at := marked(x)
		if a, _, ok := modelQuery(q); !ok || a.at != at || a.e != api.ErrSyntax {
			t.Errorf("the model tells %d at %d of %q", a.e, a.at, q)
		}
	}
}

// all are tokens of each kind, each sign, and each key word.
var all = append(strings.Fields(`// == < >= . | , + - * ( ) [ ] { } : ; a f $x $if 1 "a" low`), keyWords...)

// goOnFrom holds all rows of up to so many tokens behind a row that a query goes on with, as long as one does.
func goOnFrom(t *testing.T, row, from []string, n int) int {
	held := 0
	for _, s := range from {
		next := append(slices.Clone(row), s)
		q := strings.Join(next, " ")
		far, _, ok := wantLikeModel(t, q)
		held++
		if ok && far >= len(next) && n > 1 {
			held += goOnFrom(t, next, from, n-1)
		}
	}
	return held
}

// Promise 15.1: all short rows of tokens.
func TestShortRows(t *testing.T) {
	for _, x := range []struct {
		row, from string
		n         int
	}{
		{"", strings.Join(all, " "), 3},
		{"", ". | a $x as ( ) 1", 6},
		{"", ". [ ] , a // == +", 6},
		{"", ". a as and or then", 6},
		{"", "{ a : 1 , }", 9},
		{"", "1 - + * . a", 6},
		{"", "def f ( $x ; ) : .", 8},
		{"", "if . then else end a", 8},
		{"", "try . catch a [ ]", 7},
		{"", "1 as $x | == //", 9},
		{"", "release ( . ; a )", 8},
		{"f", "( ; 1 ) .", 8},
		{"{ a : . as $x |", "1 , b a if then : } [", 6},
		{"{ a : label $x |", ". , a \"a\" : } ] (", 6},
		{"{ then : 1 as $x | 2 ,", "then : 1 , } as $x |", 6},
		{"reduce label $x |", ". as $x | ( ; ) 1", 7},
		{"foreach try . catch label $x |", ". as $x | ( ; ) catch", 7},
		{"reduce try label $x |", ". as $x | ( ; ) catch", 7},
		{"{ a : reduce label $x |", ". as $x ( ; ) , b :", 7},
		{"reduce label $x | { a : 1 as $x |", ". as $x ( , b : }", 6},
		{"reduce label $x | reduce label $x | .", "as $x ( . ; ) |", 9},
	} {
		row := strings.Fields(x.row)
		held := goOnFrom(t, row, strings.Fields(x.from), x.n)
		if held < 100 {
			t.Errorf("only %d rows were held behind %q", held, x.row)
		}
	}
}

// Promise 15.1: each token behind, and in place of, each token of what is right.
func TestEachTokenAnywhere(t *testing.T) {
	for _, x := range right {
		l, _, _ := lex.Tokens(x.q)
		for i, token := range l {
			head := x.q[:token.At]
			wantLikeModel(t, head)
			for _, s := range all {
				wantLikeModel(t, head+" "+s+" "+x.q[token.At:])
				if i+1 < len(l) {
					wantLikeModel(t, head+" "+s+" "+x.q[l[i+1].At:])
				}
			}
		}
	}
}

// written is a program as tokens' texts.
func written(r *rand.Rand, p api.Program, more int) []string {
	w := &writer{r: r, more: more}
	w.program(p)
	return w.out
}

// blanks are some that may stand between any two tokens.
var blanks = []string{" ", "\n", "\t \r", "# | \" ) \n", "  "}

func spread(r *rand.Rand, texts []string) string {
	q := ""
	for _, s := range texts {
		q += one(r, blanks) + s
	}
	return q + one(r, blanks)
}

// Promise 15.1: what was written is parsed as it was, whatever blanks are between, and with more brackets.
func TestWrittenIsParsed(t *testing.T) {
	r := rand.New(rand.NewSource(151))
	parsed := 0
	for range 8000 {
		p := someProgram(r, 2, 60)
		texts := written(r, p, []int{0, 0, 3, 9}[r.Intn(4)])
		for _, q := range []string{strings.Join(texts, " "), tight(texts), spread(r, texts)} {
			got, at, e := parse.Query(q)
			if len(q) > api.MaxQuery {
				continue
			}
			if e != api.OK || at != 0 || !samePrograms(got, p) {
				t.Errorf("Query(%q) is %s, %d at %d, not %s", q, shownProgram(got), e, at, shownProgram(p))
			}
			parsed++
			wantMayBe(t, q, got)
			if x, at, e := parse.Expr(q); len(p.Funcs) == 0 && (e != api.OK || at != 0 || !tree.Same(x, p.Main)) {
				t.Errorf("Expr(%q) is %s, %d at %d, not %s", q, shown(x), e, at, shown(p.Main))
			}
		}
	}
	if parsed < 20000 {
		t.Errorf("only %d queries were parsed", parsed)
	}
}

// disturbed is texts of tokens of which some were left out, put in, or put in place of others.
func disturbed(r *rand.Rand, texts []string) []string {
	out := slices.Clone(texts)
	for range 1 + r.Intn(2) {
		i := r.Intn(len(out) + 1)
		j := min(i+1, len(out))
		switch r.Intn(7) {
		case 0:
			out = slices.Insert(out, i, one(r, all))
		case 1:
			out = slices.Delete(out, i, j)
		case 2:
			out = slices.Replace(out, i, j, one(r, all))
		case 3:
			out = slices.Insert(out, i, out[i:j]...)
		case 4:
			out = slices.Insert(out, i, one(r, texts))
		default:
			if l := keysIn(out); len(l) > 0 {
				out[one(r, l)] = out[one(r, l)]
			}
		}
	}
	return out
}

// keysIn are the places of keys among tokens.
func keysIn(texts []string) []int {
	var out []int
	for i := 1; i < len(texts); i++ {
		if texts[i] == ":" && (texts[i-1][0] == '"' || nameForm.MatchString(texts[i-1])) {
			out = append(out, i-1)
		}
	}
	return out
}

// Promise 15.1: many queries, right and wrong, against the model.
func TestManyLikeModel(t *testing.T) {
	r := rand.New(rand.NewSource(1511))
	told, left := map[api.Errno]int{}, 0
	for range 30000 {
		texts := written(r, someProgram(r, 2, 25), []int{0, 0, 9}[r.Intn(3)])
		for range 3 {
			q := strings.Join(disturbed(r, texts), " ")
			_, e, ok := wantLikeModel(t, q)
			if !ok {
				left++
				continue
			}
			told[e]++
			wantExprLikeModel(t, q)
		}
	}
	if told[api.OK] < 5000 || told[api.ErrSyntax] < 20000 || told[api.ErrTwice] < 100 || left > 1000 {
		t.Errorf("told was %v, and %d were left out", told, left)
	}
}

// Promise 15.1: rows of any tokens, against the model.
func TestAnyRowsLikeModel(t *testing.T) {
	r := rand.New(rand.NewSource(1512))
	for range 50000 {
		var texts []string
		for range r.Intn(12) {
			texts = append(texts, one(r, all))
		}
		q := strings.Join(texts, []string{" ", ""}[r.Intn(2)])
		wantLikeModel(t, q)
		wantExprLikeModel(t, q)
	}
}

// Promise 15.1: parts of about 512 parts, written in many ways.
func TestLargeOnes(t *testing.T) {
	r := rand.New(rand.NewSource(1513))
	met := map[bool]int{}
	for range 400 {
		p := api.Program{Main: someExpr(r, 40)}
		for size(p.Main) < 490+r.Intn(40) {
			p.Main = api.Expr{Op: one(r, []int{api.Pipe, api.Comma, api.Index}), Subs: []api.Expr{p.Main, someExpr(r, 30)}}
		}
		q := tight(written(r, p, 0))
		if len(q) > api.MaxQuery {
			continue
		}
		l, _, _ := lex.Tokens(q)
		large := size(p.Main) > 512
		met[large]++
		if large {
			wantWrong(t, q, l[0].At, api.ErrMany)
			wantWrongQuery(t, "def f:"+q+";.", 6+l[0].At, api.ErrMany)
		} else {
			got, _, e := parse.Query(q)
			if e != api.OK || !samePrograms(got, p) {
				t.Errorf("Query(%q) is %d", brief(q), e)
			}
			wantMayBe(t, q, got)
		}
	}
	if met[true] < 50 || met[false] < 50 {
		t.Errorf("too large or not were %v", met)
	}
}

// size is how many parts an expression has, itself counted.
func size(e api.Expr) int {
	n := 1
	for _, p := range e.Subs {
		n += size(p)
	}
	return n
}

// Promise P1: what goes in one another as far as a query can, and any bytes.
func TestEnds(t *testing.T) {
	for _, s := range []string{"[", "(", "{a:", ".[", "f(", "-", ".", "if ", "try ", "try . catch ", "reduce ", "label $f|", ". as $x|", ".|", ".,", ".//", ".+", ".==", "range(", "release(", "def f:", "{a:. as $x|", "reduce label $f|", "f(.;", "$x", "if . then ", "{a:.,", "..", "[]", ")", "}"} {
		for n := range 60 {
			parse.Query(strings.Repeat(s, n))
			parse.Expr(strings.Repeat(s, n) + ".")
		}
		q := strings.Repeat(s, api.MaxQuery/len(s))
		for _, end := range []string{"", ".", ")", "$x"} {
			if len(q)+len(end) <= api.MaxQuery {
				_, _, e := parse.Query(q + end)
				_, _, f := parse.Expr(q + end)
				if e == api.ErrLong || f == api.ErrLong {
					t.Errorf("a row of %q is too long", s)
				}
			}
		}
	}
	deep := strings.Repeat("(", 2047) + "." + strings.Repeat(")", 2047)
	wantBoth(t, deep, ".")
	wantWrong(t, deep[1:], len(deep)-2, api.ErrSyntax)
	wantWrong(t, strings.Repeat("[", 4096), 4096, api.ErrSyntax)
	wantWrong(t, strings.Repeat("{a:", 1365), 4095, api.ErrSyntax)
	r := rand.New(rand.NewSource(1))
	for range 50000 {
		b := make([]byte, r.Intn(30))
		for i := range b {
			b[i] = byte(32 + r.Intn(96))
			if r.Intn(20) == 0 {
				b[i] = byte(r.Intn(256))
			}
		}
		wantLikeModel(t, string(b))
	}
}

// What is told once is told again, whatever became of the first answer.
func TestToldAgain(t *testing.T) {
	for _, x := range right {
		e, _, _ := parse.Expr(x.q)
		spoil(&e)
		wantBoth(t, x.q, x.want)
	}
}

// spoil changes all that an answer's lists have.
func spoil(e *api.Expr) {
	for i := range e.Subs {
		spoil(&e.Subs[i])
		e.Subs[i] = api.Expr{Op: -1}
	}
	for i := range e.Names {
		e.Names[i] = "spoiled"
	}
	_ = append(e.Subs, api.Expr{Op: -1})
	_ = append(e.Names, "spoiled")
}
