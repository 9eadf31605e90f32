package words_test

import (
	"fmt"
	"math"
	"math/rand"
	"slices"
	"strings"
	"testing"
	"unicode/utf8"

	"keyhole/api"
	"keyhole/words"
)

// noTexts are bytes that are no texts, each for one cause.
var noTexts = []string{"\x80", "\xbf", "\xc0\x80", "\xc3", "\xa9", "\xe2\x82", "\xed\xa0\x80", "\xf4\x90\x80\x80", "\xff"}

// counts are numbers of times, the edges of int among them.
var counts = []int{math.MinInt, math.MinInt + 1, math.MinInt32, -4097, -2, -1, 0, 1, 2, 3, 4, 5, 7, 8, 15, 16, 17, 255, 256, 1023, 1024, 1365, 1366, 2047, 2048, 2049, 4095, 4096, 4097, 8192, math.MaxInt32, math.MaxInt - 1, math.MaxInt}

// rows are all rows of at most so many of these, put one behind the other.
func rows(from []string, most int) []string {
	out := []string{""}
	longest := out
	for range most {
		var longer []string
		for _, row := range longest {
			for _, s := range from {
				longer = append(longer, row+s)
			}
		}
		out, longest = append(out, longer...), longer
	}
	return out
}

// many is a list of so many of the same.
func many(s string, n int) []string { return slices.Repeat([]string{s}, n) }

// brief is what a test tells of something, cut where it is long.
func brief(v any) string {
	s := fmt.Sprintf("%+q", v)
	if len(s) > 200 {
		s = fmt.Sprintf("%s.. (%d bytes)", s[:200], len(s))
	}
	return s
}

func wantJoin(t *testing.T, l []string, by, want string, held bool) {
	t.Helper()
	before := slices.Clone(l)
	if got, ok := words.Join(l, by); got != want || ok != held {
		t.Errorf("Join(%s, %s) is %s, %v, not %s, %v", brief(l), brief(by), brief(got), ok, brief(want), held)
	}
	if !slices.Equal(l, before) {
		t.Errorf("Join(%s, %s) changed the list to %s", brief(before), brief(by), brief(l))
	}
}

func wantTimes(t *testing.T, s string, n int, want string, held bool) {
	t.Helper()
	if got, ok := words.Times(s, n); got != want || ok != held {
		t.Errorf("Times(%s, %d) is %s, %v, not %s, %v", brief(s), n, brief(got), ok, brief(want), held)
	}
}

func wantSplit(t *testing.T, s, by string, want []string, few bool) {
	t.Helper()
	if got, ok := words.Split(s, by); !slices.Equal(got, want) || ok != few {
		t.Errorf("Split(%s, %s) is %s, %v, not %s, %v", brief(s), brief(by), brief(got), ok, brief(want), few)
	}
}

// Promise 8.1: Join.

func TestJoin(t *testing.T) {
	wantJoin(t, nil, ",", "", true)
	wantJoin(t, []string{}, "", "", true)
	wantJoin(t, []string{""}, ",", "", true)
	wantJoin(t, []string{"a"}, ",", "a", true)
	wantJoin(t, []string{"a", "b"}, ",", "a,b", true)
	wantJoin(t, []string{"b", "a", "b"}, "", "bab", true)
	wantJoin(t, []string{"a", "b", "", ""}, ",", "a,b,,", true)
	wantJoin(t, []string{"", "", "a"}, ", ", ", , a", true)
	wantJoin(t, []string{",", ","}, ",", ",,,", true)
	wantJoin(t, []string{"key", "hole"}, "\u00e9\u20ac\U0001d11e\x00", "key\u00e9\u20ac\U0001d11e\x00hole", true)
}

func TestJoinOfNoTexts(t *testing.T) {
	wantJoin(t, []string{"\xc3", "\xa9"}, "", "\u00e9", true)
	wantJoin(t, []string{"\xe2", "\xac"}, "\x82", "\u20ac", true)
	for _, s := range noTexts {
		wantJoin(t, []string{s, "a", s}, ",", s+",a,"+s, true)
		wantJoin(t, []string{"a", "b"}, s, "a"+s+"b", true)
	}
}

// joined is a list's texts, put together one by one.
func joined(l []string, by string) string {
	var out []byte
	for i, s := range l {
		if i > 0 {
			out = append(out, by...)
		}
		out = append(out, s...)
	}
	return string(out)
}

// edges are lists that come, joined, to just as many bytes as are held.
func edges() []struct {
	l  []string
	by string
} {
	half := strings.Repeat("h", api.MaxString/2)
	return []struct {
		l  []string
		by string
	}{
		{[]string{half + half}, ","},
		{[]string{half, half}, ""},
		{[]string{half[1:], half}, ","},
		{[]string{half[1:], half[1:]}, ", "},
		{[]string{half[2:], "", half}, "-"},
		{[]string{"", "", half + half}, ""},
		{[]string{half + half, "", ""}, ""},
		{[]string{"a", "b"}, (half + half)[2:]},
		{[]string{"", ""}, half + half},
		{[]string{"", "", ""}, half},
		{[]string{strings.Repeat("\u00e9", api.MaxString/2)}, ","},
		{[]string{strings.Repeat("\u20ac", 1365), "\xff"}, ""},
		{many("", api.MaxString+1), ","},
		{many("", api.MaxString/2+1), ", "},
		{many("a", api.MaxString), ""},
		{many("\U0001d11e", api.MaxString/4), ""},
		{append(many("a", api.MaxString/2), ""), "\n"},
	}
}

func TestJoinThatIsHeld(t *testing.T) {
	for _, x := range edges() {
		want := joined(x.l, x.by)
		if len(want) != api.MaxString {
			t.Fatalf("Join(%s, %s) is to have %d bytes", brief(x.l), brief(x.by), len(want))
		}
		wantJoin(t, x.l, x.by, want, true)
		wantJoin(t, append([]string{"z"}, x.l...), x.by, "", false)
		for _, i := range []int{0, len(x.l) / 2, len(x.l) - 1} {
			longer, shorter := slices.Clone(x.l), slices.Clone(x.l)
			longer[i] += "z"
			wantJoin(t, longer, x.by, "", false)
			if x.l[i] != "" {
				shorter[i] = x.l[i][1:]
				wantJoin(t, shorter, x.by, joined(shorter, x.by), true)
			}
		}
		if len(x.l) > 1 {
			wantJoin(t, x.l, x.by+"z", "", false)
		}
	}
}

func TestJoinOfLongOnes(t *testing.T) {
	long := strings.Repeat("l", 1<<24)
	// What stands between texts doesn't count where nothing is to be put between.
	wantJoin(t, nil, long, "", true)
	wantJoin(t, []string{"a"}, long, "a", true)
	wantJoin(t, []string{"", ""}, long, "", false)
	for _, l := range [][]string{{long}, {long, "", "a"}, {"a", long, ""}, {"", "a", long}, many(long, 1000)} {
		wantJoin(t, l, "", "", false)
		wantJoin(t, l, ",", "", false)
		wantJoin(t, l, long, "", false)
	}
	wantJoin(t, many("", 1<<20), "", "", true)
	wantJoin(t, many("", 1<<20), ",", "", false)
	wantJoin(t, append(many("", 1<<20), "a"), "", "a", true)
}

// Promise 8.1: Times.

func TestTimes(t *testing.T) {
	wantTimes(t, "a", 3, "aaa", true)
	wantTimes(t, "ab\x00", 2, "ab\x00ab\x00", true)
	wantTimes(t, "\u00e9", 1, "\u00e9", true)
	wantTimes(t, "a", 0, "", true)
	wantTimes(t, "a", -3, "", true)
	wantTimes(t, "", 0, "", true)
	wantTimes(t, "\xff", 2, "\xff\xff", true)
}

func TestTimesThatIsHeld(t *testing.T) {
	for _, s := range []string{
		"", "a", " ", "ab", "\u00e9", "abc", "abcd", "\U0001d11e", "\xff", "-=0\t",
		strings.Repeat("b", 15), strings.Repeat("b", 16), strings.Repeat("b", 1024), strings.Repeat("\u20ac", 455), strings.Repeat("b", 2047), strings.Repeat("b", 2048), strings.Repeat("b", 2049),
		strings.Repeat("b", 4095), strings.Repeat("b", 4096), strings.Repeat("b", 4097), strings.Repeat("b", 8192), strings.Repeat("b", 1<<24),
	} {
		// At these numbers of times the bytes would, as an int, be few again.
		wraps := []int{1 << 62, 1 << 60, 1 << 59, 1 << 52, 1 << 48, 1 << 40, math.MaxInt/3*2 + 2, math.MaxInt/2 + 2}
		for _, n := range slices.Concat(counts, wraps) {
			want, held := "", true
			if n > 0 && len(s) > 0 {
				held = n <= api.MaxString && len(s)*n <= api.MaxString
			}
			if held && len(s) > 0 {
				for range n {
					want += s
				}
			}
			wantTimes(t, s, n, want, held)
		}
	}
}

// Promise 8.1: Split.

func TestSplit(t *testing.T) {
	wantSplit(t, "a,b,,", ",", []string{"a", "b", "", ""}, true)
	wantSplit(t, "a,b", ",", []string{"a", "b"}, true)
	wantSplit(t, ",a", ",", []string{"", "a"}, true)
	wantSplit(t, ",", ",", []string{"", ""}, true)
	wantSplit(t, "ab", ",", []string{"ab"}, true)
	wantSplit(t, "", ",", []string{""}, true)
	wantSplit(t, "a, b,c", ", ", []string{"a", "b,c"}, true)
	wantSplit(t, "abcabc", "abcabc", []string{"", ""}, true)
	wantSplit(t, "abc", "abcabc", []string{"abc"}, true)
	wantSplit(t, "aXbxc", "x", []string{"aXb", "c"}, true)
	wantSplit(t, "1\u00e92\u00e9\u20ac", "\u00e9", []string{"1", "2", "\u20ac"}, true)
	wantSplit(t, "a.b*c", ".", []string{"a", "b*c"}, true)
	wantSplit(t, "a\x00b", "\x00", []string{"a", "b"}, true)
}

func TestSplitFromTheFrontOn(t *testing.T) {
	wantSplit(t, "aaa", "aa", []string{"", "a"}, true)
	wantSplit(t, "aaaa", "aa", []string{"", "", ""}, true)
	wantSplit(t, "aaaaa", "aa", []string{"", "", "a"}, true)
	wantSplit(t, "xabababa", "aba", []string{"x", "b", ""}, true)
	wantSplit(t, "aab", "ab", []string{"a", ""}, true)
	wantSplit(t, ", , ,", ", ", []string{"", "", ","}, true)
}

func TestSplitIntoSigns(t *testing.T) {
	wantSplit(t, "abc", "", []string{"a", "b", "c"}, true)
	wantSplit(t, "", "", nil, true)
	wantSplit(t, "\x00a\u00e9\u20ac\U0001d11e\ufffd", "", []string{"\x00", "a", "\u00e9", "\u20ac", "\U0001d11e", "\ufffd"}, true)
	wantSplit(t, "e\u0301", "", []string{"e", "\u0301"}, true)
	for r := rune(0); r <= utf8.MaxRune; r += 1 + r/512 {
		if utf8.ValidRune(r) {
			wantSplit(t, "<"+string(r)+string(r)+">", "", []string{"<", string(r), string(r), ">"}, true)
		}
	}
}

func TestSplitOfNoTexts(t *testing.T) {
	for _, s := range noTexts {
		for _, x := range []string{s, "abc" + s, s + "abc", strings.Repeat("a", 2*api.MaxItems) + s, strings.Repeat(s, 2*api.MaxItems)} {
			wantSplit(t, x, "", nil, true)
		}
		// The bytes are parted all the same, where something stands between them.
		wantSplit(t, s+","+s, ",", []string{s, s}, true)
		wantSplit(t, "a"+s+"b", s, []string{"a", "b"}, true)
	}
	wantSplit(t, "\u00e9", "\xa9", []string{"\xc3", ""}, true)
}

func TestSplitIntoManyParts(t *testing.T) {
	for _, x := range []struct{ each, by string }{
		{"", ","}, {"a", ","}, {"\u00e9", "\u20ac"}, {"", "aa"}, {"b", "aba"}, {strings.Repeat("z", 100), "--"}, {"\xff", "\x80"},
	} {
		for n := api.MaxItems - 1; n < api.MaxItems+3; n++ {
			s := strings.Repeat(x.each+x.by, n-1) + x.each
			if n <= api.MaxItems {
				wantSplit(t, s, x.by, many(x.each, n), true)
			} else {
				wantSplit(t, s, x.by, nil, false)
			}
		}
	}
	// The last place would reach into the one ahead of it.
	wantSplit(t, strings.Repeat("a", 2*api.MaxItems-1), "aa", append(many("", api.MaxItems-1), "a"), true)
	wantSplit(t, strings.Repeat("a", 2*api.MaxItems), "aa", nil, false)
	for _, sign := range []string{"a", "\u00e9", "\u20ac", "\U0001d11e"} {
		wantSplit(t, strings.Repeat(sign, api.MaxItems-1), "", many(sign, api.MaxItems-1), true)
		wantSplit(t, strings.Repeat(sign, api.MaxItems), "", many(sign, api.MaxItems), true)
		wantSplit(t, strings.Repeat(sign, api.MaxItems+1), "", nil, false)
		wantSplit(t, strings.Repeat(sign, 1<<20), "", nil, false)
	}
}

func TestSplitOfLongOnes(t *testing.T) {
	// Only how many parts there are counts, not how long they are.
	long := strings.Repeat("l", 1<<24)
	wantSplit(t, long, ",", []string{long}, true)
	wantSplit(t, long+","+long, ",", []string{long, long}, true)
	wantSplit(t, long, long, []string{"", ""}, true)
	wantSplit(t, "a", long, []string{"a"}, true)
	wantSplit(t, "", long, []string{""}, true)
	wantSplit(t, long, "l", nil, false)
}

// parts is Split by its words, byte by byte, however many there are.
func parts(s, by string) []string {
	if by == "" {
		var out []string
		if utf8.ValidString(s) {
			for _, r := range s {
				out = append(out, string(r))
			}
		}
		return out
	}
	out := []string{""}
	for i := 0; i < len(s); {
		if len(s)-i >= len(by) && s[i:i+len(by)] == by {
			out = append(out, "")
			i += len(by)
			continue
		}
		out[len(out)-1] += s[i : i+1]
		i++
	}
	return out
}

func TestSplitOfShortRows(t *testing.T) {
	bys := rows([]string{"a", "b", "\xc3", "\xa9"}, 3)
	for _, s := range rows([]string{"a", "b", "\xc3", "\xa9"}, 6) {
		for _, by := range bys {
			wantSplit(t, s, by, parts(s, by), true)
		}
	}
}

// Promise 8.2: Has, Starts, Ends.

func wantStands(t *testing.T, s, part string, has, starts, ends bool) {
	t.Helper()
	if got := words.Has(s, part); got != has {
		t.Errorf("Has(%s, %s) is %v", brief(s), brief(part), got)
	}
	if got := words.Starts(s, part); got != starts {
		t.Errorf("Starts(%s, %s) is %v", brief(s), brief(part), got)
	}
	if got := words.Ends(s, part); got != ends {
		t.Errorf("Ends(%s, %s) is %v", brief(s), brief(part), got)
	}
}

func TestStands(t *testing.T) {
	wantStands(t, "keyhole", "key", true, true, false)
	wantStands(t, "keyhole", "hole", true, false, true)
	wantStands(t, "keyhole", "yh", true, false, false)
	wantStands(t, "keyhole", "keyhole", true, true, true)
	wantStands(t, "keyhole", "keyholes", false, false, false)
	wantStands(t, "keyhole", "akeyhole", false, false, false)
	wantStands(t, "keyhole", "Key", false, false, false)
	wantStands(t, "keyhole", "kh", false, false, false)
	wantStands(t, "keyhole", "", true, true, true)
	wantStands(t, "", "", true, true, true)
	wantStands(t, "", "a", false, false, false)
	wantStands(t, "\u00e9t\u00e9", "\u00e9", true, true, true)
	wantStands(t, "a.c", "a*c", false, false, false)
	wantStands(t, "a\x00b", "\x00", true, false, false)
	long := strings.Repeat("l", 1<<20)
	wantStands(t, long+"m", long, true, true, false)
	wantStands(t, long, long+"l", false, false, false)
	wantStands(t, long+"m"+long, "m", true, false, false)
}

func TestStandsOfShortRows(t *testing.T) {
	all := rows([]string{"a", "A", "\xc3", "\xa9"}, 3)
	for _, s := range rows([]string{"a", "A", "\xc3", "\xa9"}, 5) {
		for _, part := range all {
			has, starts, ends := false, false, false
			for i := 0; i+len(part) <= len(s); i++ {
				if s[i:i+len(part)] == part {
					has, starts, ends = true, starts || i == 0, i+len(part) == len(s)
				}
			}
			wantStands(t, s, part, has, starts, ends)
		}
	}
}

// Promise 8.2: Upper, Lower.

func wantTurned(t *testing.T, s, upper, lower string) {
	t.Helper()
	if got := words.Upper(s); got != upper {
		t.Errorf("Upper(%s) is %s, not %s", brief(s), brief(got), brief(upper))
	}
	if got := words.Lower(s); got != lower {
		t.Errorf("Lower(%s) is %s, not %s", brief(s), brief(got), brief(lower))
	}
}

const (
	small = "abcdefghijklmnopqrstuvwxyz"
	great = "ABCDEFGHIJKLMNOPQRSTUVWXYZ"
)

func TestTurned(t *testing.T) {
	wantTurned(t, "", "", "")
	wantTurned(t, "Key Hole 9", "KEY HOLE 9", "key hole 9")
	wantTurned(t, small+great, great+great, small+small)
	wantTurned(t, "@[`{\x00\x7f-_", "@[`{\x00\x7f-_", "@[`{\x00\x7f-_")
	// Other alphabets have great and small letters too; they stay.
	for _, s := range []string{"\u00e9\u00c9\u00df\u00ff\u0178", "\u0131\u0130\u017f\u212a", "\u03b1\u0391\u0436\u0416", "\uff41\uff21", "\U00010428\U00010400"} {
		wantTurned(t, s, s, s)
		wantTurned(t, "a"+s+"Z", "A"+s+"Z", "a"+s+"z")
	}
	wantTurned(t, strings.Repeat("aZ", 1<<20), strings.Repeat("AZ", 1<<20), strings.Repeat("az", 1<<20))
}

func TestTurnedOfAllBytes(t *testing.T) {
	for b := range 256 {
		s := string([]byte{byte(b)})
		upper, lower := s, s
		if i := strings.Index(small, s); i >= 0 {
			upper = great[i : i+1]
		}
		if i := strings.Index(great, s); i >= 0 {
			lower = small[i : i+1]
		}
		wantTurned(t, s, upper, lower)
		wantTurned(t, "\xc3"+s+"m\xff"+s, "\xc3"+upper+"M\xff"+upper, "\xc3"+lower+"m\xff"+lower)
	}
}

// Promise 8.2: Trim.

func wantTrim(t *testing.T, s, want string) {
	t.Helper()
	if got := words.Trim(s); got != want {
		t.Errorf("Trim(%s) is %s, not %s", brief(s), brief(got), brief(want))
	}
}

func TestTrim(t *testing.T) {
	wantTrim(t, "", "")
	wantTrim(t, " key hole ", "key hole")
	wantTrim(t, "\t\n\r a\t\n\r b\t\n\r ", "a\t\n\r b")
	wantTrim(t, "a", "a")
	wantTrim(t, " a", "a")
	wantTrim(t, "a\n", "a")
	wantTrim(t, " \r\n\t", "")
	// What others take for blanks, too, stays.
	for _, s := range []string{"\u00a0", "\u0085", "\u1680", "\u2003", "\u2028", "\u200b", "\u3000", "\ufeff", "\v", "\f", "\x00", "\x85", "\xa0", "\xff"} {
		wantTrim(t, s, s)
		wantTrim(t, " "+s+" a "+s+"\n", s+" a "+s)
	}
	long := strings.Repeat(" \t\r\n", 1<<20)
	wantTrim(t, long, "")
	wantTrim(t, long+"a"+long+"b"+long, "a"+long+"b")
}

func TestTrimOfAllBytes(t *testing.T) {
	for b := range 256 {
		s := string([]byte{byte(b)})
		want := s
		if b == 9 || b == 10 || b == 13 || b == 32 {
			want = ""
		}
		wantTrim(t, s, want)
		wantTrim(t, s+s+"m"+s+"m"+s+s, want+want+"m"+s+"m"+want+want)
	}
}

func TestTrimOfShortRows(t *testing.T) {
	for _, s := range rows([]string{"\t", "\n", "\r", " ", "a", "\v", "\xa0"}, 5) {
		want := []byte(s)
		for len(want) > 0 && slices.Contains([]byte{9, 10, 13, 32}, want[0]) {
			want = want[1:]
		}
		for len(want) > 0 && slices.Contains([]byte{9, 10, 13, 32}, want[len(want)-1]) {
			want = want[:len(want)-1]
		}
		wantTrim(t, s, string(want))
	}
}

// Promise 8.3.

func wantBack(t *testing.T, s, by string) {
	t.Helper()
	l, ok := words.Split(s, by)
	if !ok {
		t.Errorf("Split(%s, %s) has no answer", brief(s), brief(by))
	}
	wantJoin(t, l, by, s, true)
}

func TestSplitIsJoined(t *testing.T) {
	for _, by := range rows([]string{",", "a", "\u00e9"}, 3) {
		for _, s := range rows([]string{",", "a", "\u00e9", "b"}, 5) {
			wantBack(t, s, by)
		}
	}
	for _, by := range []string{"", "a", "ab", "\u20ac", "b\u20ac"} {
		for _, each := range []string{"a", "aab", "ab\u20ac", "\u20ac", "a\u00e9\u20ac\U0001d11e"} {
			wantBack(t, strings.Repeat(each, (api.MaxString-1)/len(each)), by)
		}
	}
	for _, s := range noTexts {
		wantBack(t, "a,"+s+",,"+s, ",")
		wantBack(t, "a"+s+s+"b", s)
	}
}

// Promise P1, and 8.1 to 8.3, of whatever bytes.
func TestWhateverBytes(t *testing.T) {
	r := rand.New(rand.NewSource(8))
	from := []string{"a", "Z", ",", " ", "\n", "\x00", "\u00e9", "\u20ac", "\U0001d11e", "\xc3", "\xa9", "\xff", "ab", "aba"}
	row := func(most int) string {
		s := ""
		for range r.Intn(most + 1) {
			s += from[r.Intn(len(from))]
		}
		return s
	}
	for range 50000 {
		s, by := row(12), row(3)
		want := parts(s, by)
		wantSplit(t, s, by, want, true)
		if by != "" || utf8.ValidString(s) {
			wantBack(t, s, by)
		}
		l := []string{row(4), row(4), row(4), row(4)}[:r.Intn(5)]
		wantJoin(t, l, by, joined(l, by), true)
		n := r.Intn(8) - 2
		wantTimes(t, s, n, joined(many(s, max(n, 0)), ""), true)
		if by != "" && words.Has(s, by) != (len(want) > 1) || by != "" && words.Starts(s, by) != (len(want) > 1 && want[0] == "") {
			t.Errorf("Has(%s, %s) or Starts isn't as it is split", brief(s), brief(by))
		}
		if u, v := words.Upper(s), words.Lower(s); len(u) != len(s) || len(v) != len(s) || words.Upper(v) != u || words.Lower(u) != v {
			t.Errorf("Upper and Lower of %s are %s and %s", brief(s), brief(u), brief(v))
		}
		wantTrim(t, " \n"+words.Trim(s)+"\r\t", words.Trim(s))
		for _, x := range counts {
			if got, ok := words.Times(s, x); len(got) > api.MaxString || !ok && got != "" {
				t.Errorf("Times(%s, %d) is %s, %v", brief(s), x, brief(got), ok)
			}
		}
	}
}
