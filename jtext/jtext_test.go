package jtext_test

import (
	"encoding/json"
	"fmt"
	"maps"
	"math"
	"math/rand"
	"reflect"
	"slices"
	"strconv"
	"strings"
	"testing"
	"time"

	"keyhole/api"
	"keyhole/jtext"
	"keyhole/jval"
)

func number(coef int64, scale int) api.Value {
	return api.Value{Kind: api.Number, Num: api.Num{Coef: coef, Scale: scale}}
}

func object(keys []string, items ...api.Value) api.Value {
	return api.Value{Kind: api.Object, Keys: keys, Items: items}
}

func array(items ...api.Value) api.Value { return api.Value{Kind: api.Array, Items: items} }

func text(s string) api.Value { return api.Value{Kind: api.String, Str: s} }

// nest is a value that so many arrays, or objects, are around.
func nest(v api.Value, n int) api.Value {
	for i := range n {
		if i%3 == 2 {
			v = object([]string{"a"}, v)
		} else {
			v = array(v)
		}
	}
	return v
}

// double is a value that is twice in an array, which is twice in one, and so on, so many times; all share what is in them.
func double(v api.Value, n int) api.Value {
	for range n {
		v = array(v, v)
	}
	return v
}

// spelled are values with their texts.
var spelled = []struct {
	v    api.Value
	text string
}{
	{api.Value{}, `null`},
	{api.Value{Kind: api.False}, `false`},
	{api.Value{Kind: api.True}, `true`},
	{number(0, 0), `0`},
	{number(-7, 0), `-7`},
	{number(120, 0), `120`},
	{number(125, 3), `0.125`},
	{number(-1, 9), `-0.000000001`},
	{number(api.MaxCoef-1, 0), `999999999999999`},
	{number(1-api.MaxCoef, 9), `-999999.999999999`},
	{text(""), `""`},
	{text("keyhole"), `"keyhole"`},
	{text("\"\\/"), `"\"\\/"`},
	{text("\b\t\n\f\r"), `"\b\t\n\f\r"`},
	{text("\x00\x01\x0b\x1f\x7f"), `"\u0000\u0001\u000b\u001f` + "\x7f" + `"`},
	{text("h\u00e9 \u2028\ufffd\U0001d11e<>&"), "\"h\u00e9 \u2028\ufffd\U0001d11e<>&\""},
	{text("[1,2]"), `"[1,2]"`},
	{text("\xef\xbb\xbf"), "\"\xef\xbb\xbf\""},
	{array(), `[]`},
	{array(array()), `[[]]`},
	{array(object(nil)), `[{}]`},
	{array(number(1, 0)), `[1]`},
	{array(number(3, 0), number(1, 0), number(2, 0)), `[3,1,2]`},
	{array(api.Value{}, api.Value{Kind: api.True}, api.Value{Kind: api.False}, text("a"), number(15, 1)), `[null,true,false,"a",1.5]`},
	{object(nil), `{}`},
	{object([]string{"a"}, api.Value{}), `{"a":null}`},
	{object([]string{""}, object([]string{""}, text(""))), `{"":{"":""}}`},
	{object([]string{"a", "b"}, number(1, 0), array(number(2, 0))), `{"a":1,"b":[2]}`},
	{object([]string{"", "\x01", "\"", "A", "\\", "a", "aa", "b", "\u00e9", "\uffff", "\U00010000"}, slices.Repeat([]api.Value{number(1, 0)}, 11)...),
		`{"":1,"\u0001":1,"\"":1,"A":1,"\\":1,"a":1,"aa":1,"b":1,"` + "\u00e9\":1,\"\uffff\":1,\"\U00010000\":1}"},
	{array(object([]string{"a"}, array(object([]string{"b"}, array())))), `[{"a":[{"b":[]}]}]`},
	{object([]string{"a", "b"}, object(nil), object([]string{"c", "d"}, array(), text("e"))), `{"a":{},"b":{"c":[],"d":"e"}}`},
}

// wrong are values that have no text, each for one cause.
func wrong() []api.Value {
	out := []api.Value{
		{Kind: api.Bad}, jval.Wrong("kind"),
		{Kind: api.Hole}, {Kind: -1}, {Kind: 9}, {Kind: math.MaxInt}, {Kind: math.MinInt},
		number(10, 1), number(0, 1), number(1, 10), number(1, -1), number(api.MaxCoef, 0),
		text("\xff"), text("a\xc3"), text("\xed\xa0\x80"),
		{Str: "a"}, {Num: api.Num{Coef: 1}}, {Kind: api.True, Items: []api.Value{{}}}, {Kind: api.False, Keys: []string{"a"}},
		{Kind: api.Number, Str: "1"}, {Kind: api.String, Num: api.Num{Coef: 1}}, {Kind: api.Array, Keys: []string{"a"}, Items: []api.Value{{}}}, {Kind: api.Object, Str: "a"},
		object([]string{"a"}), object(nil, api.Value{}), object([]string{"a", "b"}, api.Value{}), object([]string{"a"}, api.Value{}, api.Value{}),
		object([]string{"b", "a"}, api.Value{}, api.Value{}), object([]string{"a", "a"}, api.Value{}, api.Value{}), object([]string{"\xff"}, api.Value{}),
		nest(api.Value{}, api.MaxDepth+1), nest(array(), api.MaxDepth+1), nest(object(nil), 2*api.MaxDepth),
	}
	for _, v := range slices.Clone(out) {
		out = append(out, array(v), array(api.Value{}, v), array(v, api.Value{}), object([]string{"a"}, v), array(array(object([]string{"a", "b"}, api.Value{}, v))))
	}
	return out
}

// some is a value that may be, of at most so many values within one another.
func some(r *rand.Rand, deep int) api.Value {
	kind := r.Intn(7)
	if deep == 0 {
		kind = r.Intn(5)
	}
	v := api.Value{Kind: kind}
	switch kind {
	case api.Number:
		v.Num = api.Num{Coef: r.Int63n(1000)*10 + 1 + r.Int63n(9), Scale: r.Intn(10)}
	case api.String:
		v.Str = word(r)
	case api.Array:
		for range r.Intn(4) {
			v.Items = append(v.Items, some(r, deep-1))
		}
	case api.Object:
		keys := map[string]struct{}{}
		for range r.Intn(5) {
			keys[word(r)] = struct{}{}
		}
		v.Keys = slices.Sorted(maps.Keys(keys))
		for range v.Keys {
			v.Items = append(v.Items, some(r, deep-1))
		}
	}
	return v
}

func word(r *rand.Rand) string {
	signs := []rune{0, 1, 8, 9, 10, 12, 13, 27, 31, ' ', '"', '\\', '/', '{', ']', ',', ':', 'a', 'b', 'u', 'n', 127, 0x80, 0xe9, 0x20ac, 0xd7ff, 0xe000, 0xffff, 0x1d11e, 0x10ffff}
	out := []rune{}
	for range r.Intn(5) {
		out = append(out, signs[r.Intn(len(signs))])
	}
	return string(out)
}

// written is a value's text, by another way.
func written(v api.Value) string {
	switch v.Kind {
	case api.Null:
		return "null"
	case api.False:
		return "false"
	case api.True:
		return "true"
	case api.Number:
		return decimal(v.Num)
	case api.String:
		return inQuotes(v.Str)
	}
	parts := []string{}
	for i, x := range v.Items {
		if v.Kind == api.Object {
			parts = append(parts, inQuotes(v.Keys[i])+":"+written(x))
		} else {
			parts = append(parts, written(x))
		}
	}
	if v.Kind == api.Object {
		return "{" + strings.Join(parts, ",") + "}"
	}
	return "[" + strings.Join(parts, ",") + "]"
}

func decimal(n api.Num) string {
	sign, coef := "", n.Coef
	if coef < 0 {
		sign, coef = "-", -coef
	}
	digits := strconv.FormatInt(coef, 10)
	if n.Scale == 0 {
		return sign + digits
	}
	digits = strings.Repeat("0", max(0, n.Scale+1-len(digits))) + digits
	point := len(digits) - n.Scale
	return sign + digits[:point] + "." + digits[point:]
}

func inQuotes(s string) string {
	turned := []string{`"`, `\"`, `\`, `\\`, "\b", `\b`, "\t", `\t`, "\n", `\n`, "\f", `\f`, "\r", `\r`}
	const base16 = "0123456789abcdef"
	for b := range 32 {
		turned = append(turned, string(rune(b)), `\u00`+base16[b/16:b/16+1]+base16[b%16:b%16+1])
	}
	return `"` + strings.NewReplacer(turned...).Replace(s) + `"`
}

// Promise 6.1: Text.

func wantText(t *testing.T, v api.Value, want string) {
	t.Helper()
	if got, e := jtext.Text(v); got != want || e != api.OK {
		t.Errorf("Text(%v) is %.200q, %d, not %.200q", v.Kind, got, e, want)
	}
}

func wantNoText(t *testing.T, v api.Value) {
	t.Helper()
	if got, e := jtext.Text(v); got != "" || e != api.ErrKind {
		t.Errorf("Text(%+v) is %q, %d, not ErrKind", v, got, e)
	}
}

func TestText(t *testing.T) {
	for _, x := range spelled {
		wantText(t, x.v, x.text)
		wantText(t, array(x.v, x.v), "["+x.text+","+x.text+"]")
		wantText(t, object([]string{"a", "b"}, x.v, x.v), `{"a":`+x.text+`,"b":`+x.text+`}`)
	}
	wantText(t, api.Value{Items: []api.Value{}, Keys: []string{}}, "null")
	wantText(t, api.Value{Kind: api.Array, Keys: []string{}}, "[]")
	wantText(t, object([]string{}), "{}")
}

func TestTextOfAllSmallSigns(t *testing.T) {
	for r := rune(0); r < 0x300; r++ {
		wantText(t, text("a"+string(r)+"b"), inQuotes("a"+string(r)+"b"))
		wantText(t, object([]string{string(r)}, array()), `{`+inQuotes(string(r))+`:[]}`)
	}
}

func TestTextOfWhatHasNone(t *testing.T) {
	for _, v := range wrong() {
		wantNoText(t, v)
	}
}

func TestTextOfTheDeepest(t *testing.T) {
	for deep := range api.MaxDepth + 1 {
		wantText(t, nest(number(1, 0), deep), written(nest(number(1, 0), deep)))
	}
	for deep := api.MaxDepth + 1; deep < 3*api.MaxDepth; deep++ {
		wantNoText(t, nest(number(1, 0), deep))
	}
}

func TestTextOfMany(t *testing.T) {
	r := rand.New(rand.NewSource(1))
	for range 20000 {
		v := some(r, 4)
		wantText(t, v, written(v))
	}
}

// TestTextOfTheLongest: a text may be longer than what may be parsed.
func TestTextOfTheLongest(t *testing.T) {
	long := strings.Repeat("keyhole", api.MaxDoc)
	wantText(t, text(long), `"`+long+`"`)
	wantText(t, double(array(), 18), written(double(array(), 18)))
}

// Promise 6.1: Cut.

func wantCut(t *testing.T, v api.Value, most int, want string, wantOK bool) {
	t.Helper()
	if got, ok := jtext.Cut(v, most); got != want || ok != wantOK {
		t.Errorf("Cut of %.100q at %d is %.100q, %v, not %v", written(v), most, got, ok, wantOK)
	}
}

func TestCut(t *testing.T) {
	for _, x := range spelled {
		for most := -2; most < len(x.text); most++ {
			wantCut(t, x.v, most, "", false)
		}
		for most := len(x.text); most < len(x.text)+5; most++ {
			wantCut(t, x.v, most, x.text, true)
		}
		wantCut(t, x.v, math.MinInt, "", false)
		wantCut(t, x.v, math.MaxInt, x.text, true)
	}
}

func TestCutOfMany(t *testing.T) {
	r := rand.New(rand.NewSource(2))
	for range 5000 {
		v := some(r, 4)
		s := written(v)
		most := r.Intn(len(s))
		wantCut(t, v, most, "", false)
		wantCut(t, v, len(s)-1, "", false)
		wantCut(t, v, len(s), s, true)
		wantCut(t, v, len(s)+most, s, true)
	}
}

func TestCutOfWhatHasNoText(t *testing.T) {
	for _, v := range wrong() {
		for _, most := range []int{math.MinInt, -1, 0, 1, 10, 100, 1 << 40, math.MaxInt} {
			if got, ok := jtext.Cut(v, most); got != "" || ok {
				t.Errorf("Cut(%+v, %d) is %q, %v", v, most, got, ok)
			}
		}
	}
}

// TestCutEnds: a value that is short, but whose text isn't, is cut as soon as its text is too long.
func TestCutEnds(t *testing.T) {
	begun := time.Now()
	for _, most := range []int{0, 1, 10, 1000, api.MaxText} {
		if got, ok := jtext.Cut(double(api.Value{}, api.MaxDepth), most); got != "" || ok {
			t.Errorf("Cut of what is far too long, at %d, is %d bytes, %v", most, len(got), ok)
		}
	}
	if time.Since(begun) > 10*time.Second {
		t.Errorf("it took %v", time.Since(begun))
	}
}

// Promise 6.2: Parse.

// shown is a value as a failure shows it.
func shown(v api.Value) string {
	s := fmt.Sprintf("%+v", v)
	return s[:min(len(s), 200)]
}

func wantParsed(t *testing.T, s string, want api.Value) {
	t.Helper()
	got, n, e := jtext.Parse([]byte(s))
	if e != api.OK || n != len(s) || !jval.Same(got, want) {
		t.Errorf("Parse(%.200q) is %s, %d, %d, not %s", s, shown(got), n, e, shown(want))
	}
	if e == api.OK && !jval.Is(got) {
		t.Errorf("Parse(%.200q) is %s, which may not be", s, shown(got))
	}
}

func wantWrong(t *testing.T, s string, at int, e api.Errno) {
	t.Helper()
	got, n, ge := jtext.Parse([]byte(s))
	if ge != e || n != at || !jval.Same(got, api.Value{}) {
		t.Errorf("Parse(%.200q) is %d at %d (%s), not %d at %d", s, ge, n, shown(got), e, at)
	}
}

func TestParse(t *testing.T) {
	for _, x := range spelled {
		wantParsed(t, x.text, x.v)
		wantParsed(t, "["+x.text+","+x.text+"]", array(x.v, x.v))
		wantParsed(t, `{"a":`+x.text+`,"b":`+x.text+`}`, object([]string{"a", "b"}, x.v, x.v))
	}
	for _, x := range []struct {
		s string
		v api.Value
	}{
		{`1.50e1`, number(15, 0)},
		{`-0`, number(0, 0)},
		{`-0.0e+5`, number(0, 0)},
		{`0.10`, number(1, 1)},
		{`1E3`, number(1000, 0)},
		{`1e-9`, number(1, 9)},
		{`99999999999999.90e1`, number(999999999999999, 0)},
		{`"\u0041\u00e9\u20AC\ud834\uDD1E"`, text("A\u00e9\u20ac\U0001d11e")},
		{`"\/\b\f\n\r\t\"\\"`, text("/\b\f\n\r\t\"\\")},
		{`"\\"`, text(`\`)},
		{`"\\\\"`, text(`\\`)},
		{`"\\\""`, text(`\"`)},
		{`["\\","\\\\",1]`, array(text(`\`), text(`\\`), number(1, 0))},
		{`["\"]","\\\"",",[{"]`, array(text(`"]`), text(`\"`), text(",[{"))},
		{"\"\x7f\xc2\x80\"", text("\x7f\u0080")},
		{`{"b":1,"a":2}`, object([]string{"a", "b"}, number(2, 0), number(1, 0))},
		{`{"c":[],"":0,"b":{"y":1,"x":2},"\u0061":"A"}`, object([]string{"", "a", "b", "c"}, number(0, 0), text("A"), object([]string{"x", "y"}, number(2, 0), number(1, 0)), array())},
		{`{"a":1,"A":2,"aa":3}`, object([]string{"A", "a", "aa"}, number(2, 0), number(1, 0), number(3, 0))},
		{"{\"\U00010000\":1,\"\uffff\":2}", object([]string{"\uffff", "\U00010000"}, number(2, 0), number(1, 0))},
		{`[{"a":1},{"a":2}]`, array(object([]string{"a"}, number(1, 0)), object([]string{"a"}, number(2, 0)))},
		{`{"a":{"a":{"a":1}}}`, object([]string{"a"}, object([]string{"a"}, object([]string{"a"}, number(1, 0))))},
	} {
		wantParsed(t, x.s, x.v)
	}
}

// spaced is a text with other ones ahead of, between and behind its parts.
func spaced(parts []string, with string) string {
	return with + strings.Join(parts, with) + with
}

func TestParseBlanks(t *testing.T) {
	parts := []string{"{", `"a b"`, ":", "[", "1", ",", "true", ",", "[", "]", "]", ",", `"b"`, ":", "{", "}", ",", `"c"`, ":", "null", "}"}
	v := object([]string{"a b", "b", "c"}, array(number(1, 0), api.Value{Kind: api.True}, array()), object(nil), api.Value{})
	for _, with := range []string{"", " ", "\t", "\n", "\r", " \t\n\r", "\r\n\r\n   ", strings.Repeat(" ", 1000)} {
		wantParsed(t, spaced(parts, with), v)
		wantParsed(t, with+`""`+with, text(""))
	}
	for b := range 256 {
		with := string([]byte{byte(b)})
		if strings.Contains(`"[]{},:tfn0123456789+-.eE`, with) {
			continue
		}
		for i := range len(parts) + 1 {
			ahead, behind := strings.Join(parts[:i], ""), strings.Join(parts[i:], "")
			if strings.Contains(" \t\n\r", with) {
				wantParsed(t, ahead+with+behind, v)
			} else {
				wantWrong(t, ahead+with+behind, len(ahead), api.ErrForm)
			}
		}
	}
}

func TestParseWhatIsTooLong(t *testing.T) {
	fill := func(s string, n int) string { return s + strings.Repeat(" ", n-len(s)) }
	wantParsed(t, fill("[1]", api.MaxDoc), array(number(1, 0)))
	long := strings.Repeat("a", api.MaxDoc-2)
	wantParsed(t, `"`+long+`"`, text(long))
	wantWrong(t, `"`+long+`a"`, 0, api.ErrLong)
	wantWrong(t, strings.Repeat(" ", api.MaxDoc), api.MaxDoc, api.ErrForm)
	for _, s := range []string{"", "[1]", "x", "[1,2 ,]", `{"a":1,"a":2}`, `"\ud800"`, "\"\xff\"", "1e99", strings.Repeat("[", 100)} {
		wantWrong(t, fill(s, api.MaxDoc+1), 0, api.ErrLong)
		wantWrong(t, fill(s, 3*api.MaxDoc), 0, api.ErrLong)
	}
}

// wrongForms are no texts of JSON, with the places where they are wrong.
var wrongForms = []struct {
	s  string
	at int
}{
	{"", 0}, {" ", 1}, {"\n\t ", 3},
	{"x", 0}, {" x", 1}, {"\x00", 0}, {"\xff", 0}, {"\xef\xbb\xbf1", 0}, {"'a'", 0}, {"/", 0}, {",", 0}, {":", 0}, {"]", 0}, {"}", 0}, {"\\", 0},
	// What goes on behind a value.
	{"1 2", 2}, {"1,", 1}, {"[] []", 3}, {"{}{}", 2}, {"null null", 5}, {`"a""b"`, 3}, {"1]", 1}, {"[1]]", 3}, {"{}}", 2}, {"1 x", 2}, {"1x", 1}, {"1:", 1}, {`"a" :1`, 4}, {"1\x00", 1}, {`1""`, 1}, {"1[]", 1}, {"1true", 1}, {`""1`, 2},
	// Words.
	{"n", 1}, {"nul", 3}, {"nulx", 3}, {"nul ", 3}, {"nullx", 4}, {"null1", 4}, {"nx", 1}, {"NULL", 0}, {"nil", 1}, {"t", 1}, {"tru", 3}, {"truth", 3}, {"truE", 3}, {"True", 0}, {"truee", 4}, {"f", 1}, {"fals", 4}, {"falze", 3}, {"falsee", 5}, {"truefalse", 4}, {"[tru]", 4}, {"[nul,1]", 4}, {"[t", 2}, {"undefined", 0}, {"NaN", 0}, {"Infinity", 0},
	// Numbers.
	{"-", 0}, {"+1", 0}, {".5", 0}, {"1.", 0}, {"01", 0}, {"-01", 0}, {"00", 0}, {"1e", 0}, {"1e+", 0}, {"1E-", 0}, {"1.e5", 0}, {"--1", 0}, {"1-1", 0}, {"1+1", 0}, {"1.2.3", 0}, {"1e5e5", 0}, {"1e1.5", 0}, {"e5", 0}, {"E5", 0}, {"-x", 0}, {"-Infinity", 0}, {"0x10", 1}, {"1_000", 1}, {"[1,-]", 3}, {"[1, 01 ]", 4}, {`{"a":1.}`, 5}, {"1e5.", 0}, {"9-", 0}, {"1else", 0}, {" -", 1}, {"0123456789-", 0},
	// Strings.
	{`"`, 0}, {`"a`, 0}, {`"\"`, 0}, {`"a\"`, 0}, {`"\\\"`, 0}, {`"\`, 0}, {`"\\`, 0}, {`"\x"`, 0}, {`"\u12"`, 0}, {`"\u123g"`, 0}, {`"\U0041"`, 0}, {`"\ud800\u12"`, 0}, {`"\'"`, 0}, {"\"a\nb\"", 0}, {"\"\x00\"", 0}, {"\"\x1f\"", 0}, {"\"\t\"", 0}, {`["a","b]`, 5}, {`["\"]`, 1}, {`[1,"\x",2]`, 3}, {`  "`, 2}, {`["a", "\u00"]`, 6}, {"\"\xff", 0}, {"\"\xff\\x\"", 0}, {`"\ud800`, 0}, {`"\ud800\x"`, 0},
	// Arrays.
	{"[", 1}, {"[ ", 2}, {"[,", 1}, {"[,]", 1}, {"[1", 2}, {"[1 ", 3}, {"[1,", 3}, {"[1, ", 4}, {"[1,]", 3}, {"[1,2 ,]", 6}, {"[1,,2]", 3}, {"[1 2]", 3}, {"[1}", 2}, {"[}", 1}, {"[1:2]", 2}, {"[[]", 3}, {"[[1,2]", 6}, {"[[],]", 4}, {"[[]]]", 4}, {"[]1", 2}, {`["a":1]`, 4}, {"[1;2]", 2}, {"[[", 2}, {"[(1)]", 1}, {"[1\x00]", 2}, {"[\xff]", 1},
	// Objects.
	{"{", 1}, {"{ ", 2}, {"{]", 1}, {"{,}", 1}, {"{1:2}", 1}, {"{a:1}", 1}, {"{null:1}", 1}, {"{[]:1}", 1}, {"{{}:1}", 1}, {"{:1}", 1}, {"{'a':1}", 1}, {`{"a"`, 4}, {`{"a" `, 5}, {`{"a"}`, 4}, {`{"a" 1}`, 5}, {`{"a",1}`, 4}, {`{"a"=1}`, 4}, {`{"a"::1}`, 5}, {`{"a":`, 5}, {`{"a":}`, 5}, {`{"a":,}`, 5}, {`{"a": x}`, 6}, {`{"a":1`, 6}, {`{"a":1 `, 7}, {`{"a":1,`, 7}, {`{"a":1,}`, 7}, {`{"a":1, }`, 8}, {`{"a":1,,"b":2}`, 7}, {`{"a":1 "b":2}`, 7}, {`{"a":1]`, 6}, {`{"a":1;"b":2}`, 6}, {`{"a":1,1:2}`, 7}, {`{"a":1,"b"}`, 10}, {`{"a":1}}`, 7}, {`{"a":1:2}`, 6}, {`{"a`, 1}, {`{"\x":1}`, 1}, {`{"a":1,"\x":2}`, 7}, {`{"a":{"b":}}`, 10}, {`{"a":[}`, 6}, {`{"a":{]}`, 6}, {`{"a":1,"a`, 7},
}

func TestParseWrongForms(t *testing.T) {
	for _, x := range wrongForms {
		wantWrong(t, x.s, x.at, api.ErrForm)
		wantWrong(t, " \n"+x.s, x.at+2, api.ErrForm)
		if behind := x.s[x.at:]; json.Valid([]byte(x.s[:x.at])) && strings.Trim(behind[:1], ",]}") == "" {
			// Behind an item this may stand.
			continue
		}
		wantWrong(t, "[0,"+x.s, x.at+3, api.ErrForm)
		wantWrong(t, `{"a":`+x.s, x.at+5, api.ErrForm)
		wantWrong(t, `[["\"\\",{"k":`+x.s, x.at+14, api.ErrForm)
	}
}

// TestParseCutOff: what ends too early is wrong at the end, or where the last string or number begins.
func TestParseCutOff(t *testing.T) {
	s := ` { "ab" : [ 12 , -1.5e1 , "c\"d" , true , null , false ] , "e\\" : { } , "f" : [ ] } `
	whole := strings.LastIndex(s, "}") + 1
	tokens := []string{`"ab"`, `"c\"d"`, `"e\\"`, `"f"`}
	for n := range whole {
		at := n
		for _, w := range tokens {
			if i := strings.Index(s, w); n > i && n < i+len(w) {
				at = i
			}
		}
		if i := strings.Index(s, "-1.5e1"); strings.Contains("-. -1. -1.5e", s[i:max(i, min(n, i+6))]) && (n == i+1 || n == i+3 || n == i+5) {
			at = i
		}
		wantWrong(t, s[:n], at, api.ErrForm)
	}
}

// noTexts are strings of JSON that stand for no texts.
var noTexts = []string{
	"\"\xff\"", "\"a\xc3\"", "\"\xc0\x80\"", "\"\xed\xa0\x80\"", "\"\xf4\x90\x80\x80\"", "\"\x80\"", "\"\\n\xe2\x82\"",
	`"\ud800"`, `"\udc00"`, `"\udbff\ud800"`, `"\udc00\ud800"`, `"a\uD834b"`, `"\ud834\n"`, `"\ud834\\udd1e"`, "\"\xe2\\u0082\xac\"", "\"\\\"\xff\\\"\"",
}

func TestParseWhatIsNoText(t *testing.T) {
	for _, s := range noTexts {
		wantWrong(t, s, 0, api.ErrUtf)
		wantWrong(t, "\t"+s+" ", 1, api.ErrUtf)
		wantWrong(t, "[1,"+s+"]", 3, api.ErrUtf)
		wantWrong(t, `{"a":`+s+`}`, 5, api.ErrUtf)
		wantWrong(t, "{"+s+":1}", 1, api.ErrUtf)
		wantWrong(t, `{"a":[], `+s+`:1}`, 9, api.ErrUtf)
		wantWrong(t, "{"+s+":1,"+s+":1}", 1, api.ErrUtf)
		// What is wrong further on, or missing, is not met.
		wantWrong(t, "["+s, 1, api.ErrUtf)
		wantWrong(t, "{"+s, 1, api.ErrUtf)
		wantWrong(t, s+"x", 0, api.ErrUtf)
		// Another string that isn't right in itself goes ahead only if it is further ahead.
		wantWrong(t, `["\x",`+s+`]`, 1, api.ErrForm)
		wantWrong(t, `[`+s+`,"\x"]`, 1, api.ErrUtf)
		// In one string, what isn't right goes ahead.
		wantWrong(t, s[:len(s)-1]+`\x"`, 0, api.ErrForm)
		wantWrong(t, s[:len(s)-1]+"\n\"", 0, api.ErrForm)
		wantWrong(t, s[:len(s)-1], 0, api.ErrForm)
	}
	wantParsed(t, `"\\ud800"`, text(`\ud800`))
}

var noNumbers = []string{"1e15", "1e-10", "1000000000000000", "-1000000000000000", "0.1234567891", "1e99", "-1e-99", "123456789012345678901234567890", "1e99999999999999999999", "999999999999999.5"}

func TestParseWhatCantBeHeld(t *testing.T) {
	for _, s := range noNumbers {
		wantWrong(t, s, 0, api.ErrNum)
		wantWrong(t, " "+s+"\n", 1, api.ErrNum)
		wantWrong(t, "[1,"+s+"]", 3, api.ErrNum)
		wantWrong(t, `{"a":`+s+`}`, 5, api.ErrNum)
		wantWrong(t, "["+s, 1, api.ErrNum)
		wantWrong(t, s+"x", 0, api.ErrNum)
		wantWrong(t, s+" 1", 0, api.ErrNum)
		wantWrong(t, "[01,"+s+"]", 1, api.ErrForm)
		wantWrong(t, "["+s+",01]", 1, api.ErrNum)
		wantWrong(t, "{"+s+":1}", 1, api.ErrForm)
		wantWrong(t, s+"-", 0, api.ErrForm)
		wantWrong(t, s+".", 0, api.ErrForm)
	}
	wantParsed(t, "[999999999999999,-999999999999999,0.123456789]", array(number(api.MaxCoef-1, 0), number(1-api.MaxCoef, 0), number(123456789, 9)))
}

func TestParseKeysTwice(t *testing.T) {
	for _, x := range []struct {
		s  string
		at int
	}{
		{`{"a":1,"a":2}`, 7},
		{`{"":1,"":2}`, 6},
		{` { "a" : 1 , "a" : 2 } `, 13},
		{`{"a":1,"b":2,"a":3}`, 13},
		{`{"b":1,"a":2,"b":3}`, 13},
		{`{"a":1,"b":2,"c":3,"b":4,"a":5}`, 19},
		{`{"a":1,"\u0061":2}`, 7},
		{`{"\u00e9":1,"` + "\u00e9" + `":2}`, 12},
		{`{"\ud834\udd1e":1,"` + "\U0001d11e" + `":2}`, 18},
		{`{"/":1,"\/":2}`, 7},
		{`{"a":null,"a":null}`, 10},
		{`{"a":{"a":1,"a":2},"a":3}`, 12},
		{`{"a":{"a":1},"a":{}}`, 13},
		{`[{"a":1},{"a":1,"a":1}]`, 16},
		// The key is met ahead of what stands behind it.
		{`{"a":1,"a"`, 7},
		{`{"a":1,"a"}`, 7},
		{`{"a":1,"a"x`, 7},
		{`{"a":1,"a":x}`, 7},
		{`{"a":1,"a":1e99}`, 7},
		{"{\"a\":1,\"a\":\"\xff\"}", 7},
	} {
		wantWrong(t, x.s, x.at, api.ErrTwice)
	}
	wantWrong(t, `{"a":x,"a":1}`, 5, api.ErrForm)
	wantWrong(t, `{"a":1e99,"a":1}`, 5, api.ErrNum)
	wantParsed(t, "{\"e\u0301\":1,\"\u00e9\":2}", object([]string{"e\u0301", "\u00e9"}, number(1, 0), number(2, 0)))
}

// around is what is ahead of, and behind, a value that is so deep.
func around(deep int, ahead, behind string) (string, string) {
	return strings.Repeat(ahead, deep), strings.Repeat(behind, deep)
}

func TestParseWhatIsTooDeep(t *testing.T) {
	for _, form := range [][2]string{{"[", "]"}, {`{"a":`, "}"}, {"[ ", ", [],1]"}, {`{"\u0061": `, ` , "c":{}}`}} {
		for _, s := range []string{"1", "null", "true", "false", `"a"`, "[]", "{}", "[ ]", "{ }"} {
			a, b := around(api.MaxDepth, form[0], form[1])
			if _, n, e := jtext.Parse([]byte(a + s + b)); e != api.OK || n != len(a+s+b) {
				t.Errorf("Parse of %s with %d times %s around is %d at %d", s, api.MaxDepth, form[0], e, n)
			}
			a, b = around(api.MaxDepth+1, form[0], form[1])
			wantWrong(t, a+s+b, len(a), api.ErrDepth)
			wantWrong(t, a+" "+s+b, len(a)+1, api.ErrDepth)
			wantWrong(t, a+s, len(a), api.ErrDepth)
		}
	}
	wantParsed(t, strings.Repeat("[", api.MaxDepth+1)+strings.Repeat("]", api.MaxDepth+1), deepest())
	wantWrong(t, strings.Repeat("[", api.MaxDepth+2), api.MaxDepth+1, api.ErrDepth)
	wantWrong(t, strings.Repeat("[", api.MaxDoc), api.MaxDepth+1, api.ErrDepth)
	wantWrong(t, strings.Repeat(`{"":`, api.MaxDoc/4), 4*(api.MaxDepth+1), api.ErrDepth)
}

func deepest() api.Value {
	v := array()
	for range api.MaxDepth {
		v = array(v)
	}
	return v
}

// TestParseDepthFirst: what is too deep goes ahead of what is wrong in it, but not of what is wrong ahead of it, nor of what begins no value.
func TestParseDepthFirst(t *testing.T) {
	a, _ := around(api.MaxDepth+1, "[", "]")
	for _, s := range []string{"nul", "nx", "t", "fx", "-", "01", "1.", "1e99", "1-", `"`, `"\x"`, `"\ud800"`, "\"\xff\"", "[x", "[,", "{1", `{"a":1,"a":2}`, "["} {
		wantWrong(t, a+s, len(a), api.ErrDepth)
		wantWrong(t, a+" \n"+s+"]", len(a)+2, api.ErrDepth)
	}
	for _, s := range []string{"", "x", ",", ":", "}", "\x00", "\xff", "'", "\\"} {
		wantWrong(t, a+s, len(a), api.ErrForm)
		wantWrong(t, a+" "+s, len(a)+1, api.ErrForm)
	}
	b, _ := around(api.MaxDepth, "[", "]")
	wantWrong(t, b+"[1", len(b)+1, api.ErrDepth)
	wantWrong(t, b+"{", len(b)+1, api.ErrForm)
	wantWrong(t, b+`{"a"`, len(b)+4, api.ErrForm)
	wantWrong(t, b+`{"a":`, len(b)+5, api.ErrForm)
	wantWrong(t, b+`{"a":1}`, len(b)+5, api.ErrDepth)
	wantWrong(t, b+`{"\ud800":1}`, len(b)+1, api.ErrUtf)
	wantWrong(t, b+`{"a" 1}`, len(b)+5, api.ErrForm)
	wantWrong(t, `{"a":1,"a":`+a+"1", 7, api.ErrTwice)
	wantWrong(t, `{"a":`+a+`1,"a":1`, len(a)+5-1, api.ErrDepth)
	wantWrong(t, "[1e99,"+a+"1", 1, api.ErrNum)
}

// TestParseFirstOfTwo: of two things that are wrong, the first one is told.
func TestParseFirstOfTwo(t *testing.T) {
	a, b := around(api.MaxDepth+1, "[", "]")
	faults := []struct {
		s  string
		at int
		e  api.Errno
	}{
		{"x", 0, api.ErrForm}, {"01", 0, api.ErrForm}, {`"\x"`, 0, api.ErrForm}, {"nul", 3, api.ErrForm}, {"[1,]", 3, api.ErrForm}, {`{"a"}`, 4, api.ErrForm},
		{`"\ud800"`, 0, api.ErrUtf}, {"[\"\xff\"]", 1, api.ErrUtf}, {"1e99", 0, api.ErrNum}, {`{"a":1e99}`, 5, api.ErrNum}, {`{"a":1,"a":2}`, 7, api.ErrTwice}, {a + "1" + b, api.MaxDepth, api.ErrDepth},
	}
	for _, x := range faults {
		for _, y := range faults {
			at := 4 + x.at
			wantWrong(t, "[ 1,"+x.s+","+y.s+"]", at, x.e)
			wantWrong(t, "[ 1,"+x.s+","+y.s, at, x.e)
			wantWrong(t, `{"":`+x.s+`,"z":`+y.s+"}", at, x.e)
		}
	}
}

// TestParseChangesNothing: the bytes that are handed in stay, and what is told doesn't hang on them any more.
func TestParseChangesNothing(t *testing.T) {
	s := `{"b":"text","a":["\n",1]}`
	b := []byte(s)
	v, _, _ := jtext.Parse(b)
	if string(b) != s {
		t.Errorf("the bytes are %q", b)
	}
	for i := range b {
		b[i] = 'x'
	}
	if !jval.Same(v, object([]string{"a", "b"}, array(text("\n"), number(1, 0)), text("text"))) {
		t.Errorf("the value is %+v", v)
	}
	b = append(make([]byte, 0, 10), "[1]]]"...)
	wantParsed(t, string(b[:3]), array(number(1, 0)))
	if _, n, e := jtext.Parse(b[:3]); n != 3 || e != api.OK {
		t.Errorf("bytes behind the end are read: %d, %d", n, e)
	}
	if _, n, e := jtext.Parse(nil); n != 0 || e != api.ErrForm {
		t.Errorf("Parse(nil) is %d, %d", n, e)
	}
}

// TestParseManyKeys: keys rise however they came.
func TestParseManyKeys(t *testing.T) {
	begun := time.Now()
	keys := []string{}
	for i := range 5000 {
		keys = append(keys, "k"+strconv.Itoa(i))
	}
	slices.Sort(keys)
	items := []api.Value{}
	for _, k := range keys {
		items = append(items, text(k[1:]))
	}
	want := object(keys, items...)
	r := rand.New(rand.NewSource(3))
	for way := range 4 {
		order := r.Perm(len(keys))
		if way < 2 {
			slices.Sort(order)
		}
		if way == 1 {
			slices.Reverse(order)
		}
		parts := []string{}
		for _, i := range order {
			parts = append(parts, `"`+keys[i]+`":"`+keys[i][1:]+`"`)
		}
		s := "{" + strings.Join(parts[:4000], ",")
		wantParsed(t, "{"+strings.Join(parts[:3000], ",")+"}", only(want, order[:3000]))
		wantWrong(t, s+","+parts[0]+"}", len(s)+1, api.ErrTwice)
		wantWrong(t, s+","+parts[3999]+"}", len(s)+1, api.ErrTwice)
		wantWrong(t, s+",x", len(s)+1, api.ErrForm)
	}
	if time.Since(begun) > 20*time.Second {
		t.Errorf("it took %v", time.Since(begun))
	}
}

// only is what is at some places of an object.
func only(o api.Value, places []int) api.Value {
	out := api.Value{Kind: api.Object}
	for _, i := range slices.Sorted(slices.Values(places)) {
		out.Keys = append(out.Keys, o.Keys[i])
		out.Items = append(out.Items, o.Items[i])
	}
	return out
}

// Promise 6.3: a text is parsed as the value whose text it is.

func TestThereAndBack(t *testing.T) {
	r := rand.New(rand.NewSource(4))
	for range 20000 {
		v := some(r, 5)
		s, e := jtext.Text(v)
		if e != api.OK {
			t.Fatalf("Text(%+v) is %d", v, e)
		}
		if len(s) <= api.MaxDoc {
			wantParsed(t, s, v)
		}
	}
	for deep := range api.MaxDepth + 1 {
		for _, x := range spelled {
			if v := nest(x.v, deep); jval.Is(v) {
				s, _ := jtext.Text(v)
				wantParsed(t, s, v)
			}
		}
	}
	for r := rune(0); r <= 0x10ffff; r += 1 + r/3000 {
		if r < 0xd800 || r > 0xdfff {
			s, _ := jtext.Text(object([]string{string(r)}, text(string(r))))
			wantParsed(t, s, object([]string{string(r)}, text(string(r))))
		}
	}
}

// TestBackAndThere: whatever is parsed has a text, which is parsed as the same; and others parse it as the same.
func TestBackAndThere(t *testing.T) {
	r := rand.New(rand.NewSource(5))
	held := 0
	for range 100000 {
		s := disturbed(r, written(some(r, 3)))
		v, _, e := jtext.Parse([]byte(s))
		if e != api.OK {
			continue
		}
		held++
		back, e := jtext.Text(v)
		if e != api.OK {
			t.Fatalf("Text of what %q is parsed as is %d", s, e)
		}
		wantParsed(t, back, v)
		if !likeOthers(s, back) {
			t.Errorf("Parse(%q) is as %q", s, back)
		}
	}
	if held < 10000 {
		t.Errorf("only %d were texts of JSON", held)
	}
}

// likeOthers tells whether the library parses two texts of JSON as the same.
func likeOthers(s, back string) bool {
	var a, b any
	if json.Unmarshal([]byte(s), &a) != nil || json.Unmarshal([]byte(back), &b) != nil {
		return false
	}
	return reflect.DeepEqual(a, b)
}
