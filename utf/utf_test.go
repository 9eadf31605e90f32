package utf_test

import (
	"encoding/json"
	"fmt"
	"math"
	"math/rand"
	"regexp"
	"strings"
	"testing"
	"unicode/utf16"
	"unicode/utf8"

	"keyhole/api"
	"keyhole/utf"
)

// texts are texts with their numbers of signs; the bounds of each length of bytes are among them.
var texts = []struct {
	s     string
	signs int
}{
	{"", 0},
	{"a", 1},
	{"keyhole", 7},
	{"\x00", 1},
	{"\x1f \x7f", 3},
	{"\"\\/", 3},
	{"\xc2\x80", 1},
	{"\xdf\xbf", 1},
	{"\xe0\xa0\x80", 1},
	{"\xed\x9f\xbf", 1},
	{"\xee\x80\x80", 1},
	{"\xef\xbf\xbd", 1},
	{"\xef\xbf\xbf", 1},
	{"\xf0\x90\x80\x80", 1},
	{"\xf4\x8f\xbf\xbf", 1},
	{"\xef\xbb\xbfa", 2},
	{"e\xcc\x81", 2},
	{"a\xc3\xa9\xe2\x82\xac\xf0\x9d\x84\x9e", 4},
	{"\xf0\x9d\x84\x9e\xe2\x82\xac\xc3\xa9a", 4},
	{"\xe2\x80\xa8\xe2\x80\xa9", 2},
}

// strange are bytes that are no texts, each for one cause.
var strange = []string{
	"\x80", "\xbf", "\xc0", "\xc1", "\xc2", "\xdf", "\xe0", "\xef", "\xf0", "\xf4", "\xf5", "\xf8", "\xfc", "\xfe", "\xff",
	"\xc0\x80", "\xc1\xbf", "\xe0\x80\x80", "\xe0\x9f\xbf", "\xf0\x80\x80\x80", "\xf0\x8f\xbf\xbf", // a byte too many
	"\xed\xa0\x80", "\xed\xaf\xbf", "\xed\xb0\x80", "\xed\xbf\xbf", "\xed\xa0\xb4\xed\xb4\x9e", // surrogates
	"\xf4\x90\x80\x80", "\xf5\x80\x80\x80", "\xf7\xbf\xbf\xbf", "\xf8\x88\x80\x80\x80", "\xfc\x84\x80\x80\x80\x80", // above 10FFFF
	"\xc2\x7f", "\xc2\xc0", "\xe2\x82", "\xe2\x82\x7f", "\xe2\x82\xc0", "\xe2\x7f\x80", "\xf0\x9d\x84", "\xf0\x9d\x84\x7f", "\xf0\x9d\x84\xc0", "\xf0\x9d\x7f\x80", // cut off, or gone on wrongly
	"\xc3\xa9\xa9", "\xe2\x82\xac\x80", "\xf0\x9d\x84\x9e\x9e",
}

func wantText(t *testing.T, s string, want bool) {
	t.Helper()
	if got := utf.Valid(s); got != want {
		t.Errorf("Valid(%q) is %v", s, got)
	}
}

// Promise 3.1: Valid.

func TestValid(t *testing.T) {
	for _, x := range texts {
		wantText(t, x.s, true)
		wantText(t, "a"+x.s+x.s+"z", true)
	}
	for _, s := range strange {
		wantText(t, s, false)
		for _, x := range texts[1:] {
			wantText(t, x.s+s, false)
			wantText(t, s+x.s, false)
			wantText(t, x.s+s+x.s, false)
		}
	}
}

func TestValidOfAllSigns(t *testing.T) {
	for r := rune(0); r <= 0x110000; r++ {
		surrogate := r >= 0xD800 && r <= 0xDFFF
		wantText(t, string(encoded(r)), !surrogate && r <= 0x10FFFF)
	}
}

// encoded is the bytes of a number, as few as hold it, whether a sign has it or not.
func encoded(r rune) []byte {
	switch {
	case r < 0x80:
		return []byte{byte(r)}
	case r < 0x800:
		return []byte{0xC0 | byte(r>>6), tail(r)}
	case r < 0x10000:
		return []byte{0xE0 | byte(r>>12), tail(r >> 6), tail(r)}
	}
	return []byte{0xF0 | byte(r>>18), tail(r >> 12), tail(r >> 6), tail(r)}
}

func tail(r rune) byte { return 0x80 | byte(r&0x3F) }

func TestValidOfShortRows(t *testing.T) {
	for a := range 256 {
		wantLikeLibrary(t, []byte{byte(a)})
		for b := range 256 {
			wantLikeLibrary(t, []byte{byte(a), byte(b)})
		}
	}
	for a := 0xC0; a < 256; a++ {
		for b := range 256 {
			for c := range 256 {
				wantLikeLibrary(t, []byte{byte(a), byte(b), byte(c)})
			}
		}
	}
	edges := []byte{0, 0x1F, 0x7F, 0x80, 0x8F, 0x90, 0x9F, 0xA0, 0xBF, 0xC0, 0xC1, 0xC2, 0xDF, 0xE0, 0xE1, 0xEC, 0xED, 0xEE, 0xEF, 0xF0, 0xF1, 0xF3, 0xF4, 0xF5, 0xFF}
	for _, a := range edges {
		for _, b := range edges {
			for _, c := range edges {
				for _, d := range edges {
					wantLikeLibrary(t, []byte{a, b, c, d})
				}
			}
		}
	}
}

func wantLikeLibrary(t *testing.T, b []byte) {
	t.Helper()
	if utf.Valid(string(b)) != utf8.Valid(b) {
		t.Errorf("Valid(% x) is %v", b, !utf8.Valid(b))
	}
}

// Promise 3.1: Signs.

func TestSigns(t *testing.T) {
	for _, x := range texts {
		if got := utf.Signs(x.s); got != x.signs {
			t.Errorf("Signs(%q) is %d, not %d", x.s, got, x.signs)
		}
		for _, y := range texts {
			if got := utf.Signs(x.s + y.s); got != x.signs+y.signs {
				t.Errorf("Signs(%q) is %d, not %d", x.s+y.s, got, x.signs+y.signs)
			}
		}
	}
	if got := utf.Signs(strings.Repeat("a\xe2\x82\xac", 100000)); got != 200000 {
		t.Errorf("Signs of a long text is %d", got)
	}
}

func TestSignsOfNoText(t *testing.T) {
	for _, s := range strange {
		for _, x := range []string{s, "abc" + s, s + "abc"} {
			if got := utf.Signs(x); got != 0 {
				t.Errorf("Signs(%q) is %d, not 0", x, got)
			}
		}
	}
}

// Promise 3.1: First.

func wantFirst(t *testing.T, s string, n int, want string) {
	t.Helper()
	if got := utf.First(s, n); got != want {
		t.Errorf("First(%q, %d) is %q, not %q", s, n, got, want)
	}
}

func TestFirst(t *testing.T) {
	s := "a\xc3\xa9\xe2\x82\xac\xf0\x9d\x84\x9e\x00z"
	for n, want := range []string{"", "a", "a\xc3\xa9", "a\xc3\xa9\xe2\x82\xac", "a\xc3\xa9\xe2\x82\xac\xf0\x9d\x84\x9e", "a\xc3\xa9\xe2\x82\xac\xf0\x9d\x84\x9e\x00", s, s, s, s, s, s, s, s} {
		wantFirst(t, s, n, want)
	}
	for _, x := range texts {
		signs := []rune(x.s)
		for n := range len(signs) + 3 {
			wantFirst(t, x.s, n, string(signs[:min(n, len(signs))]))
		}
		for _, n := range []int{1 << 20, math.MaxInt32, math.MaxInt} {
			wantFirst(t, x.s, n, x.s)
		}
		for _, n := range []int{0, -1, -2, math.MinInt32, math.MinInt} {
			wantFirst(t, x.s, n, "")
		}
	}
}

func TestFirstOfNoText(t *testing.T) {
	for _, s := range strange {
		for _, n := range []int{math.MinInt, -1, 0, 1, 2, 3, 100, math.MaxInt} {
			wantFirst(t, s, n, "")
			wantFirst(t, s+"abc", n, "")
			// Its first signs would be well, but it is no text as a whole.
			wantFirst(t, "abc"+s, n, "")
		}
	}
}

// Promise 3.2: Quote.

func wantQuote(t *testing.T, s, want string, errno api.Errno) {
	t.Helper()
	if got, e := utf.Quote(s); got != want || e != errno {
		t.Errorf("Quote(%q) is %q, %d, not %q, %d", s, got, e, want, errno)
	}
}

func TestQuote(t *testing.T) {
	wantQuote(t, "", `""`, api.OK)
	wantQuote(t, "a\"\x01", `"a\"\u0001"`, api.OK)
	wantQuote(t, "keyhole", `"keyhole"`, api.OK)
	wantQuote(t, `\`, `"\\"`, api.OK)
	wantQuote(t, `"`, `"\""`, api.OK)
	wantQuote(t, `\u0041\n`, `"\\u0041\\n"`, api.OK)
	wantQuote(t, "\b\t\n\f\r", `"\b\t\n\f\r"`, api.OK)
	wantQuote(t, "\x00\x07\x0b\x0e\x0f\x10\x1a\x1b\x1f", `"\u0000\u0007\u000b\u000e\u000f\u0010\u001a\u001b\u001f"`, api.OK)
	wantQuote(t, " !#/<>&'[]\x7f", "\" !#/<>&'[]\x7f\"", api.OK)
	wantQuote(t, "\xc2\x80\xc3\xa9\xe2\x80\xa8\xe2\x80\xa9\xef\xbf\xbd\xef\xbf\xbf\xf0\x9d\x84\x9e\xf4\x8f\xbf\xbf", "\"\xc2\x80\xc3\xa9\xe2\x80\xa8\xe2\x80\xa9\xef\xbf\xbd\xef\xbf\xbf\xf0\x9d\x84\x9e\xf4\x8f\xbf\xbf\"", api.OK)
}

func TestQuoteOfAllSigns(t *testing.T) {
	short := map[rune]string{'"': `\"`, '\\': `\\`, 8: `\b`, 9: `\t`, 10: `\n`, 12: `\f`, 13: `\r`}
	for r := rune(0); r <= 0x10FFFF; r++ {
		if utf16.IsSurrogate(r) {
			continue
		}
		in := short[r]
		if in == "" && r < 32 {
			in = fmt.Sprintf("\\u%04x", r)
		} else if in == "" {
			in = string(r)
		}
		wantQuote(t, string(r), `"`+in+`"`, api.OK)
	}
}

func TestQuoteOfNoText(t *testing.T) {
	for _, s := range strange {
		for _, x := range []string{s, "abc" + s, s + "\"abc", "\x01" + s + "\x01"} {
			wantQuote(t, x, "", api.ErrUtf)
		}
	}
}

// Promise 3.2: Unquote.

func wantUnquote(t *testing.T, s, want string, errno api.Errno) {
	t.Helper()
	if got, e := utf.Unquote(s); got != want || e != errno {
		t.Errorf("Unquote(%q) is %q, %d, not %q, %d", s, got, e, want, errno)
	}
}

func TestUnquote(t *testing.T) {
	wantUnquote(t, `""`, "", api.OK)
	wantUnquote(t, `"keyhole"`, "keyhole", api.OK)
	wantUnquote(t, `"a\"\u0001"`, "a\"\x01", api.OK)
	wantUnquote(t, `"\"\\\/\b\t\n\f\r"`, "\"\\/\b\t\n\f\r", api.OK)
	wantUnquote(t, `"\\u0041\\"`, `\u0041\`, api.OK)
	wantUnquote(t, `"/' `+"\x7f"+`"`, "/' \x7f", api.OK)
	wantUnquote(t, `"\u0000\u001F\u001f\u0022\u005C\u005c"`, "\x00\x1f\x1f\"\\\\", api.OK)
	wantUnquote(t, `"\u00e9\u00E9\u20aC\uFFFD\uffff\uD7FF\uE000"`, "\u00e9\u00e9\u20ac\ufffd\uffff\ud7ff\ue000", api.OK)
	wantUnquote(t, `"\u00410"`, "A0", api.OK)
	for _, x := range texts {
		if !strings.ContainsAny(x.s, "\"\\\x00\x1f") {
			wantUnquote(t, `"`+x.s+`"`, x.s, api.OK)
		}
	}
}

func TestUnquoteOfSurrogates(t *testing.T) {
	wantUnquote(t, `"\ud800\udc00"`, "\U00010000", api.OK)
	wantUnquote(t, `"\uDBFF\uDFFF"`, "\U0010FFFF", api.OK)
	wantUnquote(t, `"\ud834\uDD1E"`, "\U0001D11E", api.OK)
	wantUnquote(t, `"a\uD834\udd1eb\ud800\udc00\ud800\udc01c"`, "a\U0001D11Eb\U00010000\U00010001c", api.OK)
	for high := rune(0xD800); high < 0xDC00; high++ {
		for _, low := range []rune{0xDC00, 0xDC01, 0xDD1E, 0xDFFE, 0xDFFF} {
			wantUnquote(t, fmt.Sprintf(`"\u%04x\u%04X"`, high, low), string(utf16.DecodeRune(high, low)), api.OK)
		}
	}
	for _, s := range []string{
		`\ud800`, `\udbff`, `\udc00`, `\udfff`, `\udc00\ud800`, `\ud800\ud800`, `\udc00\udc00`, `\ud800x\udc00`, `\ud800\u0041`, `\ud800\udbff`, `\ud800\ue000`,
		`\ud800\n\udc00`, `\ud800\\udc00`, `\ud800\ud800\udc00`, `\ud800\udc00\udc00`, `\ud800udc00`, `\ud800` + "\xed\xb0\x80", "\xed\xa0\x80" + `\udc00`,
	} {
		wantUnquote(t, `"`+s+`"`, "", api.ErrUtf)
		wantUnquote(t, `"abc`+s+`\tz"`, "", api.ErrUtf)
	}
}

func TestUnquoteOfAllNumbers(t *testing.T) {
	for r := range rune(0x10000) {
		want, errno := string(r), api.OK
		if utf16.IsSurrogate(r) {
			want, errno = "", api.ErrUtf
		}
		wantUnquote(t, fmt.Sprintf(`"\u%04x"`, r), want, errno)
		wantUnquote(t, fmt.Sprintf(`"\u%04X"`, r), want, errno)
	}
}

func TestUnquoteOfNoText(t *testing.T) {
	for _, s := range strange {
		for _, x := range []string{s, "abc" + s, s + "abc", `\n` + s + `\u00e9`} {
			wantUnquote(t, `"`+x+`"`, "", api.ErrUtf)
		}
	}
	// An escape stands for a whole sign, never for a byte of one.
	wantUnquote(t, `"`+"\xc3"+`\u00a9"`, "", api.ErrUtf)
	wantUnquote(t, `"\u00c3`+"\xa9"+`"`, "", api.ErrUtf)
	wantUnquote(t, `"\u00c3\u00a9"`, "\u00c3\u00a9", api.OK)
	wantUnquote(t, `"`+"\xe2\\n\x82\xac"+`"`, "", api.ErrUtf)
}

func TestUnquoteOfWrongForm(t *testing.T) {
	for _, s := range []string{
		"", `"`, `a`, `ab`, `"a`, `a"`, `'a'`, ` "a"`, `"a" `, `"a"` + "\n", `a""`, `""a`, "\xff", "\xff\"\"", "\"\"\xff", "\u201ca\u201d",
		`"""`, `""""`, `"a"b"`, `"a","b"`, `"\\""`, `"""a"`,
	} {
		wantUnquote(t, s, "", api.ErrForm)
	}
	for b := range byte(32) {
		wantUnquote(t, "\""+string(rune(b))+"\"", "", api.ErrForm)
		wantUnquote(t, "\"a"+string(rune(b))+"\xff\"", "", api.ErrForm)
		wantUnquote(t, "\"\\"+string(rune(b))+"\"", "", api.ErrForm)
	}
	for b := range 256 {
		if !strings.ContainsRune("\"\\/bfnrtu", rune(b)) || b > 127 {
			wantUnquote(t, "\"\\"+string([]byte{byte(b)})+"\"", "", api.ErrForm)
		}
	}
	for _, s := range []string{
		`\`, `\\\`, `\u`, `\u1`, `\u12`, `\u123`, `\u 041`, `\u+041`, `\u-041`, `\u0x41`, `\u004`, `\u004g`, `\u00G1`, `\u{41}`, `\u004\n`, `\U0041`, `\x41`, `\101`, `\0`, `\'`, `\a`, `\v`, `\N`,
		`\u004` + "\xc3\xa9", `\u00` + "\uff14\uff11", `\ud800\u`, `\ud800\udc0`, `\ud800\udc0g`, `\ud800\`, `\ud800\x`,
	} {
		wantUnquote(t, `"`+s+`"`, "", api.ErrForm)
		wantUnquote(t, `"abc`+s+`"`, "", api.ErrForm)
	}
}

func TestUnquoteOfEachDigit(t *testing.T) {
	for at := range 4 {
		for b := range 256 {
			four := []byte("0000")
			four[at] = byte(b)
			want, errno := "", api.ErrForm
			if n := strings.IndexByte("0123456789abcdefABCDEF", byte(b)); n >= 0 {
				if n > 15 {
					n -= 6
				}
				want, errno = string(rune(n<<(12-4*at))), api.OK
			}
			wantUnquote(t, `"\u`+string(four)+`"`, want, errno)
		}
	}
}

func TestUnquoteErrorsInOrder(t *testing.T) {
	for _, first := range append([]string{`\ud800`, `\udc00`}, strange...) {
		for _, then := range []string{`"`, "\x1f", "\n", "\x00", `\x`, `\u12`, `\`} {
			wantUnquote(t, `"`+first+then+`"`, "", api.ErrForm)
			wantUnquote(t, `"`+then+" "+first+`"`, "", api.ErrForm)
		}
		wantUnquote(t, `"`+first, "", api.ErrForm)
		wantUnquote(t, first+`"`, "", api.ErrForm)
		wantUnquote(t, first, "", api.ErrForm)
	}
}

// form is a string of JSON by its form alone.
var form = regexp.MustCompile(`^"(?:[^"\\\x00-\x1f]|\\["\\/bfnrt]|\\u[0-9a-fA-F]{4})*"$`)

func TestUnquoteFormOfShortRows(t *testing.T) {
	rows := []string{""}
	for range 6 {
		var longer []string
		for _, row := range rows {
			for _, s := range []string{`"`, `\`, "u", "dA0f", "8", "n", "\x1f", "\xff"} {
				longer = append(longer, row+s)
			}
		}
		for _, row := range longer {
			for _, s := range []string{row, `"` + row + `"`} {
				if _, e := utf.Unquote(s); (e == api.ErrForm) == form.MatchString(s) {
					t.Errorf("Unquote(%q): error %d", s, e)
				}
			}
		}
		rows = longer
	}
}

func TestUnquoteOfPieces(t *testing.T) {
	// Each piece with the units of 16 bits that it stands for; what has none is no text, nor part of one.
	pieces := []struct {
		in    string
		units []uint16
	}{
		{"a", []uint16{'a'}}, {"u", []uint16{'u'}}, {"0", []uint16{'0'}}, {"\u00e9", []uint16{0xE9}}, {`\u00e9`, []uint16{0xE9}}, {`\"`, []uint16{'"'}}, {`\\`, []uint16{'\\'}}, {`\/`, []uint16{'/'}}, {`\n`, []uint16{'\n'}},
		{`\u0000`, []uint16{0}}, {`\uD83d`, []uint16{0xD83D}}, {`\uDe00`, []uint16{0xDE00}}, {`\ud83d\ude00`, []uint16{0xD83D, 0xDE00}}, {`\uFFFD`, []uint16{0xFFFD}}, {"\U0001F600", []uint16{0xD83D, 0xDE00}}, {"\xc3", nil}, {"\xed\xa0\xbd", nil},
	}
	var walk func(in string, units []uint16, text bool, more int)
	walk = func(in string, units []uint16, text bool, more int) {
		signs := utf16.Decode(units)
		want, errno := string(signs), api.OK
		// A surrogate alone is lost when it is decoded, and so it doesn't come back.
		if !text || fmt.Sprint(utf16.Encode(signs)) != fmt.Sprint(units) {
			want, errno = "", api.ErrUtf
		}
		wantUnquote(t, `"`+in+`"`, want, errno)
		if more == 0 {
			return
		}
		for _, p := range pieces {
			walk(in+p.in, append(units[:len(units):len(units)], p.units...), text && p.units != nil, more-1)
		}
	}
	walk("", nil, true, 4)
}

// Promise 3.3.

func wantBack(t *testing.T, s string) {
	t.Helper()
	q, e := utf.Quote(s)
	if e != api.OK {
		t.Fatalf("Quote(%q): error %d", s, e)
	}
	wantUnquote(t, q, s, api.OK)
	var back string
	if err := json.Unmarshal([]byte(q), &back); err != nil || back != s {
		t.Errorf("Quote(%q) is %q, which others read as %q, %v", s, q, back, err)
	}
}

func TestQuotedIsUnquoted(t *testing.T) {
	for _, x := range texts {
		wantBack(t, x.s)
		for _, y := range texts {
			wantBack(t, x.s+y.s)
		}
	}
	all := make([]rune, 0, 0x110000)
	for r := rune(0); r <= 0x10FFFF; r++ {
		if !utf16.IsSurrogate(r) {
			all = append(all, r)
		}
	}
	wantBack(t, string(all))
	for b := range 128 {
		for c := range 128 {
			wantBack(t, string([]byte{byte(b), byte(c)}))
		}
	}
	q := "a\"\\\x01\u00e9"
	for range 10 {
		wantBack(t, q)
		q, _ = utf.Quote(q)
	}
}

// Promise P1, and 3.1 to 3.3, of whatever bytes.
func TestWhateverBytes(t *testing.T) {
	r := rand.New(rand.NewSource(3))
	from := []string{`"`, `\`, `\u`, "\x00", "\n", "a", "d8", "00", "dc", "\xc3", "\xa9", "\xe2\x82\xac", "\xf0\x9d", "\x84\x9e", "\xff"}
	for range 50000 {
		s := ""
		for range r.Intn(8) {
			s += from[r.Intn(len(from))]
		}
		wantText(t, s, utf8.ValidString(s))
		q, e := utf.Quote(s)
		if (e == api.OK) != utf8.ValidString(s) || e != api.OK && (q != "" || e != api.ErrUtf) {
			t.Errorf("Quote(%q) is %q, %d", s, q, e)
		}
		if e == api.OK {
			wantBack(t, s)
		}
		for n := -1; n < len(s)+2; n++ {
			f := utf.First(s, n)
			if !strings.HasPrefix(s, f) || utf.Signs(f) != min(max(n, 0), utf.Signs(s)) {
				t.Errorf("First(%q, %d) is %q", s, n, f)
			}
		}
		for _, x := range []string{s, `"` + s + `"`} {
			u, e := utf.Unquote(x)
			if (e == api.ErrForm) == form.MatchString(x) || !utf8.ValidString(u) || e != api.OK && u != "" {
				t.Errorf("Unquote(%q) is %q, %d", x, u, e)
			}
		}
	}
}

func TestLongTexts(t *testing.T) {
	long := strings.Repeat("\x01\u20ac\"", 1<<19)
	if !utf.Valid(long) || utf.Signs(long) != 3<<19 || utf.First(long, 3<<19-1) != long[:len(long)-1] {
		t.Error("a long text")
	}
	wantBack(t, long)
	if _, e := utf.Unquote(`"` + strings.Repeat(`\`, 1<<20+1) + `"`); e != api.ErrForm {
		t.Errorf("a long row of \\, the last one alone: error %d", e)
	}
	if s, e := utf.Unquote(`"` + strings.Repeat(`\ud834\udd1e`, 1<<18) + `"`); e != api.OK || s != strings.Repeat("\U0001D11E", 1<<18) {
		t.Errorf("a long row of surrogates: error %d", e)
	}
}
