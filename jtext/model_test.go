package jtext_test

import (
	"math/rand"
	"regexp"
	"slices"
	"strings"
	"testing"

	"keyhole/api"
	"keyhole/jtext"
	"keyhole/jval"
	"keyhole/num"
	"keyhole/utf"
)

// model reads a text of JSON token by token, with a row of what was begun, by chapter 6's words.
type model struct {
	begun []open
	want  int
	whole api.Value
}

// open is an array or object that isn't ended.
type open struct {
	v   api.Value
	key string
}

// What may come next.
const (
	aValue = iota
	aValueOrEnd
	aKey
	aKeyOrEnd
	aColon
	aCommaOrEnd
	nothing
)

var (
	blanks  = regexp.MustCompile(`^[ \t\n\r]*`)
	strung  = regexp.MustCompile(`(?s)^"(?:[^"\\]|\\.)*"`)
	numeric = regexp.MustCompile(`^[0-9+\-.eE]+`)
)

// token is the token at the front of what isn't empty: its first sign, its length, its value.
func token(s string) (first byte, n int, v api.Value, e api.Errno) {
	switch {
	case strings.Contains("[]{},:", s[:1]):
		return s[0], 1, v, api.OK
	case s[0] == '"':
		n := len(strung.FindString(s))
		if n == 0 {
			return '"', 0, v, api.ErrForm
		}
		str, e := utf.Unquote(s[:n])
		return '"', n, jval.Text(str), e
	case s[0] == '-' || s[0] >= '0' && s[0] <= '9':
		held := numeric.FindString(s)
		n, e := num.Parse(held)
		return '0', len(held), api.Value{Kind: api.Number, Num: n}, e
	}
	for kind, w := range []string{"null", "false", "true"} {
		if s[0] == w[0] {
			same := 0
			for same < len(s) && same < len(w) && s[same] == w[same] {
				same++
			}
			if same < len(w) {
				return w[0], same, v, api.ErrForm
			}
			return w[0], same, api.Value{Kind: kind}, api.OK
		}
	}
	return s[0], 0, v, api.ErrForm
}

// parse is what Parse ought to answer.
func (m *model) parse(s string) (api.Value, int, api.Errno) {
	if len(s) > api.MaxDoc {
		return api.Value{}, 0, api.ErrLong
	}
	at := 0
	for {
		at += len(blanks.FindString(s[at:]))
		if at == len(s) {
			break
		}
		n, e := m.step(s[at:])
		if e != api.OK {
			return api.Value{}, at + n, e
		}
		at += n
	}
	if m.want != nothing {
		return api.Value{}, at, api.ErrForm
	}
	return m.whole, at, api.OK
}

// step goes past a token, and tells its length, or how far on it is wrong.
func (m *model) step(s string) (int, api.Errno) {
	first, n, v, e := token(s)
	inner := m.want
	switch {
	case first == ']' && (inner == aValueOrEnd || inner == aCommaOrEnd && m.last().v.Kind == api.Array),
		first == '}' && (inner == aKeyOrEnd || inner == aCommaOrEnd && m.last().v.Kind == api.Object):
		v := m.last().v
		m.begun = m.begun[:len(m.begun)-1]
		m.add(v)
	case first == ',' && inner == aCommaOrEnd && m.last().v.Kind == api.Array:
		m.want = aValue
	case first == ',' && inner == aCommaOrEnd:
		m.want = aKey
	case first == ':' && inner == aColon:
		m.want = aValue
	case first == '"' && (inner == aKey || inner == aKeyOrEnd):
		if e != api.OK {
			return 0, e
		}
		if slices.Contains(m.last().v.Keys, v.Str) {
			return 0, api.ErrTwice
		}
		m.last().key = v.Str
		m.want = aColon
	case strings.Contains(`[{"0nft`, string(first)) && (inner == aValue || inner == aValueOrEnd):
		return m.begin(first, n, v, e)
	default:
		return 0, api.ErrForm
	}
	return n, api.OK
}

// begin goes past a value's first token.
func (m *model) begin(first byte, n int, v api.Value, e api.Errno) (int, api.Errno) {
	if len(m.begun) > api.MaxDepth {
		return 0, api.ErrDepth
	}
	switch {
	case e != api.OK && (first == '"' || first == '0'):
		return 0, e
	case e != api.OK:
		return n, e
	case first == '[':
		m.begun = append(m.begun, open{v: api.Value{Kind: api.Array}})
		m.want = aValueOrEnd
	case first == '{':
		m.begun = append(m.begun, open{v: api.Value{Kind: api.Object}})
		m.want = aKeyOrEnd
	default:
		m.add(v)
	}
	return n, api.OK
}

func (m *model) last() *open { return &m.begun[len(m.begun)-1] }

// add puts a value that is ended where it belongs.
func (m *model) add(v api.Value) {
	if len(m.begun) == 0 {
		m.whole, m.want = v, nothing
		return
	}
	if o := m.last(); o.v.Kind == api.Array {
		o.v.Items = append(o.v.Items, v)
	} else {
		o.v = jval.Put(o.v, o.key, v)
	}
	m.want = aCommaOrEnd
}

func wantLikeModel(t *testing.T, s string) api.Errno {
	t.Helper()
	v, at, e := jtext.Parse([]byte(s))
	mv, mat, me := (&model{}).parse(s)
	if e != me || at != mat || !jval.Same(v, mv) {
		t.Errorf("Parse(%q) is %+v, %d at %d, not %+v, %d at %d", s, v, e, at, mv, me, mat)
	}
	return e
}

// TestModel: the model itself goes by the lists of what is right and wrong.
func TestModel(t *testing.T) {
	for _, x := range wrongForms {
		if _, at, e := (&model{}).parse(x.s); at != x.at || e != api.ErrForm {
			t.Errorf("the model tells %d at %d of %q", e, at, x.s)
		}
	}
	for _, x := range spelled {
		if v, _, e := (&model{}).parse(x.text); e != api.OK || !jval.Same(v, x.v) {
			t.Errorf("the model tells %d of %q", e, x.text)
		}
	}
}

// Promise 6.2: Parse of all short rows of parts, against the model.
func TestParseShortRows(t *testing.T) {
	parts := []string{"[", "]", "{", "}", ",", ":", `"a"`, `"b"`, "1", "null", " ", `"`, `\`, "-", "x"}
	rows := []string{""}
	for range 4 {
		var longer []string
		for _, s := range rows {
			for _, p := range parts {
				wantLikeModel(t, s+p)
				longer = append(longer, s+p)
			}
		}
		rows = longer
	}
	for _, head := range []string{`{"a":1`, `[{"b":[]}`, strings.Repeat("[", api.MaxDepth), strings.Repeat(`{"a":`, api.MaxDepth)} {
		for _, s := range rows {
			if len(head) < 10 || strings.ContainsAny(s[:1], `[{"1n`) {
				wantLikeModel(t, head+s)
			}
		}
	}
}

// Promise 6.2: Parse of all short strings, and of all short numbers.
func TestParseShortTokens(t *testing.T) {
	for _, signs := range []string{`"\un8` + "\xc3\xa9\n", "01-+.eE]"} {
		rows := []string{""}
		for range 5 {
			var longer []string
			for _, s := range rows {
				for i := range len(signs) {
					longer = append(longer, s+signs[i:i+1])
				}
			}
			rows = longer
			for _, s := range rows {
				wantLikeModel(t, `[1,"`+s)
				wantLikeModel(t, `["`+s+`",0]`)
				wantLikeModel(t, `[`+s)
				wantLikeModel(t, s)
			}
		}
	}
}

// disturbed is a text of JSON with some parts put in, left out, or doubled; often with blanks alone.
func disturbed(r *rand.Rand, s string) string {
	parts := []string{"[", "]", "{", "}", ",", ":", `"`, `\`, "a", `"a"`, `"":`, "1", "0", "-", ".5", "e1", "1e15", "null", "true", "nul", " ", "\n", "\x00", "\xff", `\u0061`, `\ud834`, `\udd1e`, `[[[[[[[[`, `]]]]]]]]`, `{"b":1,"a":2}`, `{"a":[],"\u0061":{}}`}
	blank := r.Intn(3) == 0
	for range r.Intn(4) {
		i := r.Intn(len(s) + 1)
		j := min(len(s), i+r.Intn(4))
		switch k := r.Intn(4); {
		case blank && strings.Contains(`[]{},:`, s[i:min(i+1, len(s))]):
			s = s[:i] + strings.Repeat(" ", r.Intn(3)) + s[i:]
		case blank:
		case k == 0:
			s = s[:i] + s[j:]
		case k == 1:
			s = s[:j] + s[i:]
		case k == 2:
			s = s[:i] + parts[r.Intn(len(parts))] + s[j:]
		default:
			s = s[:i] + parts[r.Intn(len(parts))] + s[i:]
		}
	}
	return s
}

// Promise 6.2: Parse of many texts, and of what was made of them, against the model.
func TestParseLikeModel(t *testing.T) {
	r := rand.New(rand.NewSource(6))
	told := map[api.Errno]int{}
	for range 100000 {
		s := disturbed(r, written(some(r, 4)))
		if r.Intn(10) == 0 {
			a, b := around(25+r.Intn(10), "[", "]")
			s = a + s + b
		}
		told[wantLikeModel(t, s)]++
	}
	for _, e := range []api.Errno{api.OK, api.ErrForm, api.ErrUtf, api.ErrNum, api.ErrTwice, api.ErrDepth} {
		if told[e] < 100 {
			t.Errorf("%d was told only %d times", e, told[e])
		}
	}
}
