package envelope_test

import (
	"math"
	"math/rand"
	"strconv"
	"strings"
	"testing"

	"keyhole/api"
	"keyhole/envelope"
	"keyhole/jval"
	"keyhole/level"
	"keyhole/node"
)

// Promise 10.1: Key.

func TestKey(t *testing.T) {
	for k, want := range map[string]string{
		"": "", "a": "a", "=": "=", "a#": "a#", " #": " #", "é": "é", "＃": "＃", "\xff#": "\xff#", "\x00": "\x00",
		"#": "##", "##": "###", "###": "####", "#a": "##a", "#=": "##=", "##a": "###a", "#\xff": "##\xff", "#!": "##!",
		strings.Repeat("#", 5000): strings.Repeat("#", 5001), strings.Repeat("a#", 5000): strings.Repeat("a#", 5000),
	} {
		if got := envelope.Key(k); got != want {
			t.Errorf("Key(%s) is %s, not %s", brief(k), brief(got), brief(want))
		}
	}
	for c := range 256 {
		k := string([]byte{byte(c)})
		want := k
		if c == '#' {
			want = "##"
		}
		if envelope.Key(k) != want || envelope.Key(k+"#") != want+"#" {
			t.Errorf("Key of %q is %q", k, envelope.Key(k))
		}
	}
}

// Promise 10.1: Decode.

func wantDecoded(t *testing.T, l *level.Lattice, v api.Value, want api.Node) {
	t.Helper()
	before := cloneValue(v)
	n, e := envelope.Decode(l, v)
	if e != api.OK {
		t.Errorf("Decode(%s) tells %d", brief(v), e)
	}
	wantNode(t, "Decode("+brief(v)+")", n, want)
	wantValue(t, "what was decoded", v, before)
}

// wantNotDecoded keeps no clone of the value, since of what holds itself there is none.
func wantNotDecoded(t *testing.T, title string, l *level.Lattice, v api.Value, want api.Errno) {
	t.Helper()
	n, e := envelope.Decode(l, v)
	if e != want {
		t.Errorf("Decode of %s tells %d, not %d", title, e, want)
	}
	wantNode(t, "Decode of "+title, n, api.Node{})
}

func TestDecode(t *testing.T) {
	for s, want := range map[string]api.Node{
		`null`:          null(0),
		`"#"`:           text(0, "#"),
		`"##"`:          text(0, "##"),
		`7`:             number(0, 7),
		`[]`:            nodes(0, 0),
		`{}`:            fields(0, 0, nil),
		`[1,"a"]`:       nodes(0, 0, number(0, 1), text(0, "a")),
		`{"a":1,"b":2}`: fields(0, 0, []string{"a", "b"}, number(0, 1), number(0, 2)),

		`{"#":"high","=":7}`:                                   number(3, 7),
		`{"#":"low","=":7}`:                                    number(0, 7),
		`{"=":7,"#":"a"}`:                                      number(1, 7),
		`{"#":"a","=":[1]}`:                                    nodes(1, 1, number(0, 1)),
		`{"#":"a","=":{"k":1}}`:                                fields(1, 1, []string{"k"}, number(0, 1)),
		`{"#":"a","=":{}}`:                                     fields(1, 1, nil),
		`{"#":"high","=":{"##a":1}}`:                           fields(3, 3, []string{"#a"}, number(0, 1)),
		`[1,{"#":"a","=":2}]`:                                  nodes(0, 1, number(0, 1), number(1, 2)),
		`[{"#":"a","=":1},{"#":"b","=":2}]`:                    nodes(0, 3, number(1, 1), number(2, 2)),
		`{"k":{"#":"b","=":1}}`:                                fields(0, 2, []string{"k"}, number(2, 1)),
		`{"#":"a","=":[{"#":"b","=":1}]}`:                      nodes(1, 3, number(2, 1)),
		`[[{"#":"a","=":null}]]`:                               nodes(0, 1, nodes(0, 1, null(1))),
		`{"#":"a","=":{"#":"b","=":1}}`:                        number(3, 1),
		`{"#":"a","=":{"#":"a","=":1}}`:                        number(1, 1),
		`{"#":"low","=":{"#":"a","=":{"#":"low","=":[2]}}}`:    nodes(1, 1, number(0, 2)),
		`{"#":"a","=":{"#":"low","=":[{"#":"high","=":"x"}]}}`: nodes(1, 3, text(3, "x")),
	} {
		l := lattice([]string{"low", "a", "b", "high"}, [2]int{0, 1}, [2]int{0, 2}, [2]int{1, 3}, [2]int{2, 3})
		wantDecoded(t, l, parse(s), want)
	}
}

func TestDecodeOfKeys(t *testing.T) {
	for s, want := range map[string][]string{
		`{"##":1}`:                       {"#"},
		`{"###":1}`:                      {"##"},
		`{"##":1,"=":2}`:                 {"#", "="},
		`{"##=":1}`:                      {"#="},
		`{"=":1}`:                        {"="},
		`{"=":1,"a":2}`:                  {"=", "a"},
		`{"a#":1,"a##":2}`:               {"a#", "a##"},
		`{" ##":1}`:                      {" ##"},
		`{"##a":1}`:                      {"#a"},
		`{"":1,"!":2,"##":3,"###":4}`:    {"", "!", "#", "##"},
		`{"!":1,"###a":2,"##a":3,"a":4}`: {"!", "##a", "#a", "a"},
		`{"\"":1,"##!":2,"##\ud834\udd1e":3,"$":4}`: {"\"", "#!", "#\U0001d11e", "$"},
	} {
		var items []api.Node
		for _, v := range parse(s).Items {
			items = append(items, number(0, v.Num.Coef))
		}
		wantDecoded(t, lowHigh(), parse(s), fields(0, 0, want, items...))
	}
}

func TestDecodeOfEachLevel(t *testing.T) {
	for _, l := range shapes() {
		low := l.Bottom()
		wantDecoded(t, l, parse(`[{"k":"x"}]`), nodes(low, low, fields(low, low, []string{"k"}, text(low, "x"))))
		for a := range l.Size() {
			wantDecoded(t, l, sealed(l.Text(a), jval.Text("x")), text(a, "x"))
			wantDecoded(t, l, jval.List(sealed(l.Text(a), jval.Text("x"))), nodes(low, a, text(a, "x")))
			for b := range l.Size() {
				ab := l.Join(a, b)
				wantDecoded(t, l, sealed(l.Text(a), sealed(l.Text(b), jval.Text("x"))), text(ab, "x"))
				wantDecoded(t, l, sealed(l.Text(a), jval.List(sealed(l.Text(b), jval.Text("x")))), nodes(a, ab, text(b, "x")))
				wantDecoded(t, l, jval.List(sealed(l.Text(a), jval.Int(1)), sealed(l.Text(b), jval.Int(2))), nodes(low, ab, number(a, 1), number(b, 2)))
			}
		}
	}
}

func TestDecodeErrKind(t *testing.T) {
	noEnvelope := parse(`{"#":1}`)
	for title, v := range map[string]api.Value{
		"a bad one":                     jval.Wrong("kind"),
		"a bad one of ''":               jval.Wrong(""),
		"no text":                       jval.Text("\xff"),
		"no number":                     {Kind: api.Number, Num: api.Num{Coef: 10, Scale: 1}},
		"a hole":                        {Kind: api.Hole},
		"no kind":                       {Kind: -1},
		"no kind, far up":               {Kind: math.MaxInt},
		"null with a text":              {Str: "a"},
		"text with an item":             {Kind: api.String, Items: []api.Value{{}}},
		"array with a key":              {Kind: api.Array, Items: []api.Value{{}}, Keys: []string{"a"}},
		"keys that fall":                object([]string{"b", "a"}, api.Value{}, api.Value{}),
		"a key twice":                   object([]string{"a", "a"}, api.Value{}, api.Value{}),
		"a key too many":                object([]string{"#", "="}, jval.Text("low")),
		"an item too many":              object([]string{"#"}, jval.Text("low"), api.Value{}),
		"an envelope, turned":           object([]string{"=", "#"}, api.Value{}, jval.Text("low")),
		"a key that's no text":          object([]string{"#\xff"}, api.Value{}),
		"a level's name that's no text": sealed("\xff", api.Value{}),
	} {
		wantNotDecoded(t, title, lowHigh(), v, api.ErrKind)
		wantNotDecoded(t, title+", in an array", lowHigh(), jval.List(jval.Int(1), v), api.ErrKind)
		wantNotDecoded(t, title+", in an envelope", lowHigh(), sealed("high", v), api.ErrKind)
		wantNotDecoded(t, title+", in an envelope of no level", lowHigh(), sealed("none", v), api.ErrKind)
		wantNotDecoded(t, title+", behind no envelope", lowHigh(), jval.List(noEnvelope, v), api.ErrKind)
		wantNotDecoded(t, title+", in no envelope", lowHigh(), jval.List(object([]string{"#a"}, v)), api.ErrKind)
		wantNotDecoded(t, title+", of no lattice", nil, v, api.ErrKind)
	}
}

func TestDecodeErrForm(t *testing.T) {
	for _, s := range []string{
		`{"#":"high"}`, `{"#":null}`, `{"#":1}`, `{"#":"high","==":1}`, `{"#":"high","a":1}`, `{"#":"high","":1}`, `{"#":"high","##":1}`, `{"#":"high","#=":1}`,
		`{"#":"high","=":1,"a":2}`, `{"#":"high","=":1,"":2}`, `{"#":"high","=":1,"##a":2}`, `{"#":"high","=":1,"#a":2}`, `{"#":"none","=":1,"a":2}`,
		`{"#":null,"=":1}`, `{"#":false,"=":1}`, `{"#":true,"=":1}`, `{"#":1,"=":1}`, `{"#":["high"],"=":1}`, `{"#":{"#":"high","=":"high"},"=":1}`, `{"#":{},"=":1}`, `{"#":[],"=":1}`,
		`{"#a":1}`, `{"#=":1}`, `{"# ":1}`, `{"#\u0000":1}`, `{"#\"":1}`, `{"#é":1}`, `{"#a#":1}`, `{"#a##":1}`, `{"#a":1,"##a":2}`, `{"##a":1,"#a":2}`, `{"!":1,"#b":2,"c":3}`, `{"=":1,"#=":2}`,
	} {
		v := parse(s)
		wantNotDecoded(t, s, lowHigh(), v, api.ErrForm)
		wantNotDecoded(t, "[1,"+s+"]", lowHigh(), jval.List(jval.Int(1), v), api.ErrForm)
		wantNotDecoded(t, "an object of "+s, lowHigh(), object([]string{"##", "a"}, jval.Int(1), v), api.ErrForm)
		wantNotDecoded(t, "an envelope of "+s, lowHigh(), sealed("high", v), api.ErrForm)
		wantNotDecoded(t, s+", far in", lowHigh(), nestValue(v, api.MaxDepth-depth(v)), api.ErrForm)
		wantNotDecoded(t, s+", of no lattice", nil, v, api.ErrForm)
	}
}

func TestDecodeErrName(t *testing.T) {
	for _, name := range []string{"", "none", "High", "HIGH", "high ", " high", "hig", "highs", "high\x00", "#", "low,high", "0", "1", strings.Repeat("a", 5000)} {
		v := sealed(name, jval.Int(1))
		wantNotDecoded(t, "a level "+brief(name), lowHigh(), v, api.ErrName)
		wantNotDecoded(t, "a level "+brief(name)+", in an array", lowHigh(), jval.List(jval.Int(1), v), api.ErrName)
		wantNotDecoded(t, "a level "+brief(name)+", in an object", lowHigh(), object([]string{"##", "a"}, jval.Int(1), v), api.ErrName)
		wantNotDecoded(t, "a level "+brief(name)+", in an envelope", lowHigh(), sealed("high", v), api.ErrName)
		wantNotDecoded(t, "a level "+brief(name)+", around an envelope", lowHigh(), sealed(name, sealed("high", jval.Int(1))), api.ErrName)
	}
	wantNotDecoded(t, "a level, of no lattice", nil, sealed("low", jval.Int(1)), api.ErrName)
	wantNotDecoded(t, "the level '', of no lattice", nil, sealed("", jval.Int(1)), api.ErrName)
}

func TestDecodeErrorsInOrder(t *testing.T) {
	for s, want := range map[string]api.Errno{
		`[{"#":"none","=":1},{"#":1}]`:                          api.ErrName,
		`[{"#":1},{"#":"none","=":1}]`:                          api.ErrForm,
		`{"a":{"#":"none","=":1},"b":{"#x":1}}`:                 api.ErrName,
		`{"a":{"#x":1},"b":{"#":"none","=":1}}`:                 api.ErrForm,
		`{"#":"none","=":{"#":1}}`:                              api.ErrName,
		`{"#":"high","=":[{"#":"none","=":1},{"#":1}]}`:         api.ErrName,
		`{"#x":{"#":"none","=":1}}`:                             api.ErrForm,
		`{"!":{"#":"none","=":1},"#x":1}`:                       api.ErrForm,
		`{"##":{"#":"none","=":1},"#x":1}`:                      api.ErrForm,
		`{"#":"none","=":{"#":"none","=":1},"a":1}`:             api.ErrForm,
		`{"#":{"#":"none","=":1},"=":1}`:                        api.ErrForm,
		`[[{"#":"none","=":1}],{"#":1}]`:                        api.ErrName,
		`[[{"#":1}],{"#":"none","=":1}]`:                        api.ErrForm,
		`[[[[{"#":"none","=":1}]]],[{"#":1}]]`:                  api.ErrName,
		`[1,[2,{"a":[{"#":1}]}],{"#":"none","=":1}]`:            api.ErrForm,
		`{"a":[{"b":{"#":"none","=":1}}],"b":{"#":"x","=":[]}}`: api.ErrName,
	} {
		wantNotDecoded(t, s, lowHigh(), parse(s), want)
	}
}

// wantAsModel asks of a value what the document's words say of it.
func wantAsModel(t *testing.T, l *level.Lattice, v api.Value) {
	t.Helper()
	if e := wrongOf(l, v); e != api.OK {
		wantNotDecoded(t, brief(v), l, v, e)
		return
	}
	wantDecoded(t, l, v, nodeOf(l, v))
}

func TestDecodeOfManySmallObjects(t *testing.T) {
	keys := []string{"", "!", "#", "##", "###", "##a", "#a", "=", "a"}
	items := []api.Value{jval.Text("high"), jval.Text("none"), jval.Int(1), parse(`{"#":"high","=":1}`), parse(`[{"#":"none","=":1}]`), parse(`{"#":1}`)}
	var ask func(o api.Value, from int)
	ask = func(o api.Value, from int) {
		wantAsModel(t, lowHigh(), o)
		if len(o.Keys) == 3 {
			return
		}
		for i := from; i < len(keys); i++ {
			for _, v := range items {
				ask(jval.Put(o, keys[i], v), i+1)
			}
		}
	}
	ask(object(nil), 0)
}

func TestDecodeOfSomeWithFaults(t *testing.T) {
	r := rand.New(rand.NewSource(101))
	for _, l := range shapes() {
		for range 1500 {
			v := someValue(r, l, 5)
			wantAsModel(t, l, v)
			for range 1 + r.Intn(3) {
				spoilValue(r, &v)
				wantAsModel(t, l, v)
			}
		}
	}
}

func TestDecodeOfDeepOnes(t *testing.T) {
	l := lowHigh()
	v, n := jval.Text("x"), text(1, "x")
	for range api.MaxDepth {
		v = sealed("high", v)
	}
	wantDecoded(t, l, v, n)
	wantNotDecoded(t, "one envelope too many", l, sealed("high", v), api.ErrKind)
	wantDecoded(t, l, nestValue(sealed("high", jval.Text("x")), api.MaxDepth-1), func() api.Node {
		n := text(1, "x")
		for range api.MaxDepth - 1 {
			n = nodes(0, 1, n)
		}
		return n
	}())
	wantNotDecoded(t, "an envelope too deep", l, nestValue(sealed("high", jval.Text("x")), api.MaxDepth), api.ErrKind)
	wantNotDecoded(t, "no envelope, and too deep", l, jval.List(parse(`{"#":1}`), nestValue(jval.Text("x"), api.MaxDepth)), api.ErrKind)
	wantNotDecoded(t, "far too deep", l, nestValue(jval.Text("x"), 300000), api.ErrKind)
}

func TestDecodeOfSharedOnes(t *testing.T) {
	l := lowHigh()
	for n := range api.MaxDepth {
		got, e := envelope.Decode(l, doubleValue(sealed("high", jval.Text("x")), n))
		want := text(1, "x")
		for range n {
			want = nodes(0, 1, want, want)
		}
		if e != api.OK {
			t.Errorf("Decode of a shared one tells %d", e)
		}
		wantNode(t, "Decode of a shared one", got, want)
	}
	shared := doubleValue(jval.Text("x"), api.MaxDepth-1)
	wantNotDecoded(t, "a shared one ahead of no envelope", l, jval.List(shared, parse(`{"#":1}`)), api.ErrForm)
	wantNotDecoded(t, "a shared one ahead of an envelope of no level", l, jval.List(shared, sealed("none", shared.Items[0])), api.ErrName)
	wantNotDecoded(t, "a shared one that is too deep", l, doubleValue(jval.Text("x"), 100), api.ErrKind)
	list := []api.Value{jval.Text("high"), jval.List(jval.Int(1)), sealed("high", jval.Int(2))}
	v := jval.List(jval.List(list...), object([]string{"#", "="}, list[:2]...), object([]string{"##", "="}, list[:2]...), jval.List(list[:2]...), jval.List(list[:1]...), object([]string{"a", "b"}, list[1:]...), jval.List(list[1:]...))
	wantDecoded(t, l, v, nodeOf(l, v))
}

func TestDecodeOfManyThatShareOneList(t *testing.T) {
	many := jval.List(make([]api.Value, 20000)...)
	v := many
	for range 20 {
		list := make([]api.Value, len(many.Items))
		for i := range list {
			list[i] = v
		}
		v = jval.List(list...)
	}
	wantNotDecoded(t, "many ahead of no envelope", lowHigh(), jval.List(v, parse(`{"#":1}`)), api.ErrForm)
}

func TestDecodeOfWhatHoldsItself(t *testing.T) {
	for n := 1; n < 5; n++ {
		wantNotDecoded(t, "what holds itself", lowHigh(), ringValue(n), api.ErrKind)
		wantNotDecoded(t, "an envelope of what holds itself", lowHigh(), sealed("high", ringValue(n)), api.ErrKind)
		wantNotDecoded(t, "what holds itself, behind no envelope", lowHigh(), jval.List(parse(`{"#":1}`), ringValue(n)), api.ErrKind)
	}
}

func TestDecodeOfNoLattice(t *testing.T) {
	wantDecoded(t, nil, parse(`[{"##a":"x"}]`), nodes(0, 0, fields(0, 0, []string{"#a"}, text(0, "x"))))
}

// Promise 10.1: Encode.

func wantEncoded(t *testing.T, l *level.Lattice, n api.Node, want api.Value) {
	t.Helper()
	before := clone(n)
	v, e := envelope.Encode(l, n)
	if e != api.OK {
		t.Errorf("Encode(%s) tells %d", brief(n), e)
	}
	wantValue(t, "Encode("+brief(n)+")", v, want)
	wantNode(t, "what was encoded", n, before)
}

// wantNotEncoded keeps no clone either.
func wantNotEncoded(t *testing.T, title string, l *level.Lattice, n api.Node) {
	t.Helper()
	v, e := envelope.Encode(l, n)
	if e != api.ErrKind {
		t.Errorf("Encode of %s tells %d", title, e)
	}
	wantValue(t, "Encode of "+title, v, api.Value{})
}

func TestEncode(t *testing.T) {
	for s, n := range map[string]api.Node{
		`null`:             null(0),
		`"#"`:              text(0, "#"),
		`[]`:               nodes(0, 0),
		`{}`:               fields(0, 0, nil),
		`[1,"a"]`:          nodes(0, 0, number(0, 1), text(0, "a")),
		`{"##":1,"a":"a"}`: fields(0, 0, []string{"#", "a"}, number(0, 1), text(0, "a")),

		`{"#":"a","=":null}`:                null(1),
		`{"#":"top","=":"low"}`:             text(3, "low"),
		`{"#":"a","=":[]}`:                  nodes(1, 1),
		`{"#":"a","=":{}}`:                  fields(1, 1, nil),
		`{"#":"a","=":[1]}`:                 nodes(1, 1, number(0, 1)),
		`[{"#":"a","=":1}]`:                 nodes(0, 1, number(1, 1)),
		`{"#":"a","=":[{"#":"a","=":1}]}`:   nodes(1, 1, number(1, 1)),
		`{"#":"a","=":[{"#":"b","=":1},2]}`: nodes(1, 3, number(2, 1), number(0, 2)),
		`{"#":"top","=":[{"#":"a","=":1}]}`: nodes(3, 3, number(1, 1)),
		`{"#":"b","=":{"##a":{"#":"a","=":[{"k":{"#":"top","=":"x"}}]}}}`: fields(2, 3, []string{"#a"}, nodes(1, 3, fields(0, 3, []string{"k"}, text(3, "x")))),
		`{"#":"a","=":{"##":"b","=":1}}`:                                  fields(1, 1, []string{"#", "="}, text(0, "b"), number(0, 1)),
	} {
		wantEncoded(t, sides(), n, parse(s))
	}
}

func TestEncodeOfKeys(t *testing.T) {
	keys := []string{"", "!", "\"", "#", "#!", "##", "###", "##a", "#=", "#a", "#\U0001d11e", "$", "=", "a#"}
	want := []string{"", "!", "\"", "##", "##!", "###", "####", "###a", "##=", "##a", "##\U0001d11e", "$", "=", "a#"}
	wantEncoded(t, lowHigh(), fields(0, 0, keys, make([]api.Node, len(keys))...), object(want, make([]api.Value, len(keys))...))
	for i := range keys {
		wantEncoded(t, lowHigh(), fields(0, 0, keys[i:i+1], number(0, 1)), object(want[i:i+1], jval.Int(1)))
		wantEncoded(t, lowHigh(), fields(1, 1, keys[i:i+1], number(0, 1)), sealed("high", object(want[i:i+1], jval.Int(1))))
	}
}

func TestEncodeOfEachLevel(t *testing.T) {
	// envelopes are those that a Label stands for: none of the bottom.
	envelopes := func(l *level.Lattice, a int, v api.Value) api.Value {
		if a == l.Bottom() {
			return v
		}
		return sealed(l.Text(a), v)
	}
	for _, l := range shapes() {
		for a := range l.Size() {
			wantEncoded(t, l, text(a, "x"), envelopes(l, a, jval.Text("x")))
			for b := range l.Size() {
				in := envelopes(l, b, jval.Text("x"))
				wantEncoded(t, l, nodes(a, l.Join(a, b), text(b, "x")), envelopes(l, a, jval.List(in)))
				wantEncoded(t, l, fields(a, l.Join(a, b), []string{"k"}, text(b, "x")), envelopes(l, a, object([]string{"k"}, in)))
			}
		}
	}
}

func TestEncodeErrKind(t *testing.T) {
	l := lowHigh()
	for title, n := range map[string]api.Node{
		"a bad one":            node.Wrong(0, "kind"),
		"a bad one of ''":      node.Wrong(0, ""),
		"a hole":               {Kind: api.Hole},
		"a hole of the top":    {Kind: api.Hole, Label: 1, Deep: 1},
		"no kind":              {Kind: 9},
		"no text":              text(0, "\xff"),
		"no number":            {Kind: api.Number, Num: api.Num{Scale: 1}},
		"null with a text":     {Str: "a"},
		"keys that fall":       fields(0, 0, []string{"b", "a"}, null(0), null(0)),
		"a key too many":       fields(0, 0, []string{"a", "b"}, null(0)),
		"a key that's no text": fields(0, 0, []string{"#\xff"}, null(0)),
		"no level":             null(2),
		"no level, below":      null(-1),
		"Deep too low":         nodes(0, 0, null(1)),
		"Deep too high":        {Deep: 1},
	} {
		wantNotEncoded(t, title, l, n)
		wantNotEncoded(t, title+", in an array", l, node.Array(l, 0, []api.Node{null(0), n}))
		wantNotEncoded(t, title+", in an object", l, node.Object(l, 1, []string{"a", "b"}, []api.Node{n, null(1)}))
		wantNotEncoded(t, title+", far in", l, node.Array(l, 0, []api.Node{node.Array(l, 1, []api.Node{node.Array(l, 0, []api.Node{n})})}))
		wantNotEncoded(t, title+", of no lattice", nil, n)
	}
	wantNotEncoded(t, "a bad one with a label", l, node.Wrong(1, "kind"))
	wantNotEncoded(t, "a bad one with a label, in an array", l, nodes(0, 1, node.Wrong(1, "kind")))
	wantNotEncoded(t, "a node, of no lattice", nil, null(0))
}

func TestEncodeOfDeepOnes(t *testing.T) {
	l := lowHigh()
	// Each item is one deeper, and each envelope makes all that is in it one deeper.
	for arrays := range api.MaxDepth + 2 {
		for envelopes := range arrays + 2 {
			n, v := null(0), api.Value{}
			for i := range arrays + 1 {
				if i > 0 {
					n, v = nodes(0, n.Deep, n), jval.List(v)
				}
				if i < envelopes {
					n, v = api.Node{Label: 1, Deep: 1, Kind: n.Kind, Items: n.Items}, sealed("high", v)
				}
			}
			if arrays+envelopes <= api.MaxDepth {
				wantEncoded(t, l, n, v)
			} else {
				wantNotEncoded(t, "what is too deep", l, n)
			}
		}
	}
	wantNotEncoded(t, "far too deep", l, nest(text(0, "x"), 300000))
	wantNotEncoded(t, "far too deep, with labels", l, nest(text(1, "x"), 300000))
	wantNotEncoded(t, "too deep in a short one", l, nodes(0, 0, null(0), nest(null(0), api.MaxDepth), null(0)))
}

func TestEncodeOfSharedOnes(t *testing.T) {
	l := lowHigh()
	for n := range api.MaxDepth + 1 {
		v, e := envelope.Encode(l, double(text(0, "x"), n))
		if e != api.OK {
			t.Errorf("Encode of a shared one tells %d", e)
		}
		wantValue(t, "Encode of a shared one", v, doubleValue(jval.Text("x"), n))
	}
	for n := range api.MaxDepth / 2 {
		v, e := envelope.Encode(l, double(text(1, "x"), n))
		want := sealed("high", jval.Text("x"))
		for range n {
			want = sealed("high", jval.List(want, want))
		}
		if e != api.OK {
			t.Errorf("Encode of a shared one with labels tells %d", e)
		}
		wantValue(t, "Encode of a shared one with labels", v, want)
	}
	wantNotEncoded(t, "a shared one that is too deep", l, double(text(0, "x"), api.MaxDepth+1))
	wantNotEncoded(t, "a shared one with labels that is too deep", l, double(text(1, "x"), api.MaxDepth/2))
	wantNotEncoded(t, "a shared one that is far too deep", l, double(text(0, "x"), 10000))
	wantNotEncoded(t, "a shared bad one", l, double(node.Wrong(0, "x"), 30))
	list := []api.Node{text(1, "high"), nodes(0, 0, number(0, 1)), number(1, 2)}
	n := nodes(0, 1, nodes(0, 1, list...), fields(1, 1, []string{"#", "="}, list[:2]...), nodes(1, 1, list[:2]...), fields(0, 1, []string{"a", "b"}, list[1:]...), nodes(0, 1, list[:1]...))
	wantEncoded(t, l, n, valueOf(l, n))
}

func TestEncodeOfWhatHoldsItself(t *testing.T) {
	for n := 1; n < 5; n++ {
		wantNotEncoded(t, "what holds itself", lowHigh(), ring(n))
		wantNotEncoded(t, "what holds what holds itself", lowHigh(), nodes(0, 0, null(0), ring(n)))
	}
}

func TestEncodeOfSomeWithFaults(t *testing.T) {
	r := rand.New(rand.NewSource(102))
	for _, l := range shapes() {
		for range 1500 {
			n := someNode(r, l, 5)
			for i := range 4 {
				want, e := wantedOf(l, n)
				if e == api.OK {
					wantEncoded(t, l, n, want)
				} else {
					wantNotEncoded(t, brief(n), l, n)
				}
				if i == 0 && e != api.OK {
					t.Errorf("some node isn't right: %s", brief(n))
				}
				spoil(r, &n)
			}
		}
	}
}

// Promise 10.2.

func TestWhatIsEncodedIsDecoded(t *testing.T) {
	r := rand.New(rand.NewSource(103))
	for _, l := range shapes() {
		for range 2000 {
			n := someNode(r, l, 6)
			v, e := envelope.Encode(l, n)
			if e != api.OK {
				t.Errorf("Encode(%s) tells %d", brief(n), e)
			}
			wantDecoded(t, l, v, n)
			if !sameCounted(countedOfValue(l, v, l.Bottom()), countedOfNode(l, n, l.Bottom())) {
				t.Errorf("labels that count in %s aren't those in %s", brief(n), brief(v))
			}
		}
	}
}

func TestLabelsThatCountAreKept(t *testing.T) {
	r := rand.New(rand.NewSource(104))
	for _, l := range shapes() {
		for range 2000 {
			v := someValue(r, l, 6)
			n, e := envelope.Decode(l, v)
			if e != api.OK || !node.Is(l, n) {
				t.Errorf("Decode(%s) tells %d, %s", brief(v), e, brief(n))
			}
			if !sameCounted(countedOfValue(l, v, l.Bottom()), countedOfNode(l, n, l.Bottom())) {
				t.Errorf("labels that count in %s aren't those in %s", brief(v), brief(n))
			}
			w, e := envelope.Encode(l, n)
			if e != api.OK {
				t.Errorf("Encode(%s) tells %d", brief(n), e)
			}
			wantDecoded(t, l, w, n)
		}
	}
}

func TestWhateverStandsForALabelIsNoKey(t *testing.T) {
	for _, k := range []string{"", "#", "=", "##", "#=", "#a", "###", "a"} {
		for _, n := range []api.Node{
			fields(0, 0, []string{k}, text(0, "high")),
			fields(1, 1, []string{k}, text(0, "high")),
			fields(0, 1, []string{k}, fields(1, 1, []string{k}, text(0, "high"))),
		} {
			v, e := envelope.Encode(lowHigh(), n)
			if e != api.OK {
				t.Errorf("Encode(%s) tells %d", brief(n), e)
			}
			wantDecoded(t, lowHigh(), v, n)
			if wantedKey := envelope.Key(k); n.Label == 0 && v.Keys[0] != wantedKey {
				t.Errorf("%q is written %q, not %q", k, v.Keys[0], wantedKey)
			}
		}
	}
}

// Promise P1, and what is handed in.

func TestWhateverIsAskedIsAnswered(t *testing.T) {
	r := rand.New(rand.NewSource(105))
	lattices := append(shapes(), nil, &level.Lattice{})
	for range 5000 {
		l := lattices[r.Intn(len(lattices))]
		v, n := someValue(r, sides(), 4), someNode(r, sides(), 4)
		for range r.Intn(5) {
			spoilValue(r, &v)
			spoil(r, &n)
		}
		w, m := cloneValue(v), clone(n)
		if got, e := envelope.Decode(l, v); e != api.OK {
			wantNode(t, "beside an error", got, api.Node{})
		}
		if got, e := envelope.Encode(l, n); e != api.OK {
			wantValue(t, "beside an error", got, api.Value{})
		}
		wantValue(t, "what was handed in", v, w)
		wantNode(t, "what was handed in", n, m)
	}
}

func TestTheRoomBehindIsLeft(t *testing.T) {
	l := lowHigh()
	keys := []string{"##a", "##b", "#", "x"}
	items := []api.Value{jval.Int(1), sealed("high", jval.Int(2)), jval.Text("\xff"), jval.Int(4)}
	n, e := envelope.Decode(l, object(keys[:2], items[:2]...))
	if e != api.OK || keys[0] != "##a" || keys[2] != "#" || items[2].Str != "\xff" {
		t.Errorf("Decode tells %d, and the room is %q, %s", e, keys, brief(items))
	}
	more := append(n.Items, number(0, 3))
	names := []string{"#a", "#b", "c"}
	v, e := envelope.Encode(l, fields(0, 1, names[:2], more[:2]...))
	if e != api.OK || names[0] != "#a" || names[2] != "c" || more[2].Num.Coef != 3 || strings.Join(v.Keys, " ") != "##a ##b" {
		t.Errorf("Encode tells %d, and the room is %q, %s", e, names, brief(more))
	}
}

func TestEachCallStandsAlone(t *testing.T) {
	list := []api.Value{sealed("high", jval.Int(1))}
	up, down := lowHigh(), lattice([]string{"high", "low"}, [2]int{1, 0})
	for i := range 4 {
		wantDecoded(t, up, jval.List(list...), nodes(0, 1, number(1, 1)))
		wantDecoded(t, down, jval.List(list...), nodes(1, 0, number(0, 1)))
		name := strconv.Itoa(i)
		list[0] = sealed("none", jval.Text(name))
		wantNotDecoded(t, "what has become wrong", up, jval.List(list...), api.ErrName)
		list[0] = sealed("high", jval.Int(1))
	}
}
