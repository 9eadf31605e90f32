package num_test

import (
	"encoding/json"
	"math"
	"math/big"
	"math/rand"
	"strconv"
	"strings"
	"testing"

	"keyhole/api"
	"keyhole/num"
)

const most = api.MaxCoef - 1

// strange are numbers that may not be, each for one cause.
var strange = []api.Num{
	{Coef: 1, Scale: -1}, {Coef: 1, Scale: 10}, {Coef: 1, Scale: 30}, {Coef: 1, Scale: math.MaxInt}, {Coef: 1, Scale: math.MinInt},
	{Coef: 0, Scale: -1}, {Coef: 0, Scale: 1}, {Coef: 0, Scale: 9}, {Coef: 0, Scale: 10},
	{Coef: 10, Scale: 1}, {Coef: -10, Scale: 1}, {Coef: 100, Scale: 1}, {Coef: 150, Scale: 9}, {Coef: api.MaxCoef - 10, Scale: 3},
	{Coef: api.MaxCoef}, {Coef: -api.MaxCoef}, {Coef: api.MaxCoef + 1}, {Coef: -api.MaxCoef - 1},
	{Coef: api.MaxCoef + 1, Scale: 1}, {Coef: -api.MaxCoef - 1, Scale: 9},
	{Coef: math.MaxInt64}, {Coef: math.MinInt64}, {Coef: math.MaxInt64, Scale: 9}, {Coef: math.MinInt64, Scale: 9},
}

// edges are numbers that may be, at and around the bounds.
func edges() []api.Num {
	var out []api.Num
	for _, c := range []int64{0, 1, 2, 3, 5, 7, 8, 9, 10, 11, 15, 25, 99, 100, 101, 125, 999999999, 1000000000, 1000000001, 31622776, 31622777, 1 << 40, most / 2, most/2 + 1, most / 10, most/10 + 1, most - 1, most} {
		for _, coef := range []int64{c, -c} {
			for scale := range api.MaxScale + 1 {
				if scale == 0 || coef%10 != 0 {
					out = append(out, api.Num{Coef: coef, Scale: scale})
				}
			}
		}
	}
	return out
}

// some is numbers that may be, of all sizes.
func some(r *rand.Rand) api.Num {
	coef := r.Int63n(power(1 + r.Intn(15)).Int64())
	if r.Intn(2) == 0 {
		coef = -coef
	}
	scale := r.Intn(api.MaxScale + 1)
	if coef%10 == 0 {
		scale = 0
	}
	return api.Num{Coef: coef, Scale: scale}
}

// power is ten to the power of n.
func power(n int) *big.Int {
	return new(big.Int).Exp(big.NewInt(10), big.NewInt(int64(n)), nil)
}

// exact is a number as the document's words have it.
func exact(n api.Num) *big.Rat { return fraction(n.Coef, n.Scale) }

func fraction(coef int64, scale int) *big.Rat {
	return new(big.Rat).SetFrac(big.NewInt(coef), power(scale))
}

// holder is the number that holds a fraction: of all that might, the one that may be.
func holder(x *big.Rat) (api.Num, api.Errno) {
	for scale := range api.MaxScale + 1 {
		y := new(big.Rat).Mul(x, new(big.Rat).SetInt(power(scale)))
		if !y.IsInt() {
			continue
		}
		if y.Num().CmpAbs(big.NewInt(api.MaxCoef)) >= 0 {
			return api.Num{}, api.ErrNum
		}
		return api.Num{Coef: y.Num().Int64(), Scale: scale}, api.OK
	}
	return api.Num{}, api.ErrNum
}

type both func(a, b api.Num) (api.Num, api.Errno)

func want(t *testing.T, title string, got api.Num, e api.Errno, n api.Num, errno api.Errno) {
	t.Helper()
	if got != n || e != errno {
		t.Errorf("%s is %v, %d, not %v, %d", title, got, e, n, errno)
	}
}

// Promise 4.1: Is.

func TestIs(t *testing.T) {
	right := append(edges(), api.Num{Coef: 15}, api.Num{Coef: 10}, api.Num{Coef: 1, Scale: 1}, api.Num{Coef: 1, Scale: 9}, api.Num{Coef: 101, Scale: 2})
	for _, n := range right {
		if !num.Is(n) {
			t.Errorf("%v may be", n)
		}
	}
	for _, n := range strange {
		if num.Is(n) {
			t.Errorf("%v may not be", n)
		}
	}
	for coef := int64(-1000); coef <= 1000; coef++ {
		for scale := -2; scale < 12; scale++ {
			n := api.Num{Coef: coef, Scale: scale}
			if may := scale == 0 || scale > 0 && scale <= 9 && coef%10 != 0; num.Is(n) != may {
				t.Errorf("Is(%v) is %v", n, !may)
			}
		}
	}
}

// Promise 4.1: Make and Int.

func wantMake(t *testing.T, coef int64, scale int, n api.Num, errno api.Errno) {
	t.Helper()
	got, e := num.Make(coef, scale)
	want(t, "Make of "+strconv.FormatInt(coef, 10)+" and "+strconv.Itoa(scale), got, e, n, errno)
}

func TestMake(t *testing.T) {
	wantMake(t, 0, 0, api.Num{}, api.OK)
	wantMake(t, 0, 30, api.Num{}, api.OK)
	wantMake(t, 15, 0, api.Num{Coef: 15}, api.OK)
	wantMake(t, 15, 1, api.Num{Coef: 15, Scale: 1}, api.OK)
	wantMake(t, -1500, 1, api.Num{Coef: -150}, api.OK)
	wantMake(t, -1500, 3, api.Num{Coef: -15, Scale: 1}, api.OK)
	wantMake(t, 1, 9, api.Num{Coef: 1, Scale: 9}, api.OK)
	wantMake(t, 1, 10, api.Num{}, api.ErrNum)
	wantMake(t, 10, 10, api.Num{Coef: 1, Scale: 9}, api.OK)
	wantMake(t, most, 0, api.Num{Coef: most}, api.OK)
	wantMake(t, -most, 9, api.Num{Coef: -most, Scale: 9}, api.OK)
	wantMake(t, api.MaxCoef, 0, api.Num{}, api.ErrNum)
	wantMake(t, -api.MaxCoef, 0, api.Num{}, api.ErrNum)
	wantMake(t, api.MaxCoef, 1, api.Num{Coef: api.MaxCoef / 10}, api.OK)
	wantMake(t, api.MaxCoef+1, 1, api.Num{}, api.ErrNum)
	wantMake(t, most*1000, 3, api.Num{Coef: most}, api.OK)
	wantMake(t, most*1000, 12, api.Num{Coef: most, Scale: 9}, api.OK)
	wantMake(t, 1000000000000000000, 18, api.Num{Coef: 1}, api.OK)
	wantMake(t, -1000000000000000000, 27, api.Num{Coef: -1, Scale: 9}, api.OK)
	wantMake(t, 1000000000000000000, 28, api.Num{}, api.ErrNum)
	for scale := range 31 {
		wantMake(t, 0, scale, api.Num{}, api.OK)
		wantMake(t, math.MinInt64, scale, api.Num{}, api.ErrNum)
		wantMake(t, math.MaxInt64, scale, api.Num{}, api.ErrNum)
	}
	for _, scale := range []int{-1, -2, -9, 31, 32, 100, math.MinInt, math.MaxInt} {
		wantMake(t, 0, scale, api.Num{}, api.ErrNum)
		wantMake(t, 1, scale, api.Num{}, api.ErrNum)
		wantMake(t, 1000000000000000000, scale, api.Num{}, api.ErrNum)
	}
}

func TestMakeIsExact(t *testing.T) {
	r := rand.New(rand.NewSource(1))
	for i := 0; i < 50000 && !t.Failed(); i++ {
		coef := r.Int63() >> r.Intn(63)
		for range r.Intn(18) {
			if coef < math.MaxInt64/10 {
				coef *= 10
			}
		}
		if r.Intn(2) == 0 {
			coef = -coef
		}
		scale := r.Intn(31)
		n, errno := holder(fraction(coef, scale))
		wantMake(t, coef, scale, n, errno)
	}
}

func TestInt(t *testing.T) {
	for _, n := range []int{0, 1, -1, 9, 10, -10, 1500, 1 << 40, most, -most} {
		got, e := num.Int(n)
		want(t, "Int of "+strconv.Itoa(n), got, e, api.Num{Coef: int64(n)}, api.OK)
	}
	for _, n := range []int{api.MaxCoef, -api.MaxCoef, api.MaxCoef * 10, math.MaxInt, math.MinInt} {
		got, e := num.Int(n)
		want(t, "Int of "+strconv.Itoa(n), got, e, api.Num{}, api.ErrNum)
	}
}

// Promise 4.1: Text.

func TestText(t *testing.T) {
	for _, x := range []struct {
		coef  int64
		scale int
		text  string
	}{
		{0, 0, "0"}, {1, 0, "1"}, {-1, 0, "-1"}, {10, 0, "10"}, {-1500, 0, "-1500"},
		{1, 1, "0.1"}, {-1, 1, "-0.1"}, {15, 1, "1.5"}, {-15, 1, "-1.5"}, {105, 1, "10.5"}, {125, 3, "0.125"}, {-1125, 3, "-1.125"},
		{1, 9, "0.000000001"}, {-1, 9, "-0.000000001"}, {12, 9, "0.000000012"}, {1000000001, 9, "1.000000001"}, {100000001, 9, "0.100000001"},
		{most, 0, "999999999999999"}, {-most, 0, "-999999999999999"}, {most, 1, "99999999999999.9"}, {-most, 9, "-999999.999999999"},
	} {
		if got := num.Text(api.Num{Coef: x.coef, Scale: x.scale}); got != x.text {
			t.Errorf("Text of %d, %d is %q, not %q", x.coef, x.scale, got, x.text)
		}
	}
	for _, n := range strange {
		if got := num.Text(n); got != "?" {
			t.Errorf("Text of %v is %q", n, got)
		}
	}
}

func TestTextIsExact(t *testing.T) {
	r := rand.New(rand.NewSource(2))
	for i := 0; i < 20000 && !t.Failed(); i++ {
		n := some(r)
		if got, text := num.Text(n), exact(n).FloatString(n.Scale); got != text {
			t.Errorf("Text of %v is %q, not %q", n, got, text)
		}
	}
}

// Promise 4.1: Parse.

func wantParse(t *testing.T, s string, n api.Num, errno api.Errno) {
	t.Helper()
	got, e := num.Parse(s)
	want(t, "Parse of "+strconv.Quote(s[:min(len(s), 40)]), got, e, n, errno)
}

func TestParse(t *testing.T) {
	for _, x := range []struct {
		s     string
		coef  int64
		scale int
	}{
		{"0", 0, 0}, {"-0", 0, 0}, {"0.0", 0, 0}, {"-0.000", 0, 0}, {"0e0", 0, 0}, {"0e-10", 0, 0}, {"-0.00E+99", 0, 0}, {"0e99999999999999999999999", 0, 0}, {"0e-99999999999999999999999", 0, 0}, {"0.00000000000000000", 0, 0},
		{"1", 1, 0}, {"-1", -1, 0}, {"10", 10, 0}, {"1.50e1", 15, 0}, {"1.50", 15, 1}, {"-1.5", -15, 1}, {"0.5", 5, 1}, {"-0.5", -5, 1},
		{"1e1", 10, 0}, {"1E1", 10, 0}, {"1e+1", 10, 0}, {"1e-1", 1, 1}, {"1E-1", 1, 1}, {"1e0", 1, 0}, {"1e-0", 1, 0}, {"1e+0", 1, 0}, {"1e01", 10, 0}, {"1e-0009", 1, 9},
		{"1e00000000000000000000000000001", 10, 0}, {"12.50e-1", 125, 2}, {"0.0012e4", 12, 0}, {"0.0012e3", 12, 1},
		{"1e-9", 1, 9}, {"10e-10", 1, 9}, {"0.000000001", 1, 9}, {"0.0000000010000000", 1, 9}, {"1000000000e-18", 1, 9},
		{"1e14", 100000000000000, 0}, {"0.1e15", 100000000000000, 0}, {"999999999999999", most, 0}, {"-999999999999999", -most, 0}, {"999999999999999.0", most, 0}, {"999999.999999999", most, 9}, {"-999999.999999999000", -most, 9},
		{"9999999999999990e-1", most, 0}, {"123456789012345000e-3", 123456789012345, 0}, {"0.00000000000000000000123456789012345e32", 123456789012345, 3},
		{"1000000000000000e-15", 1, 0}, {"100000000000000000000000000000000e-32", 1, 0},
	} {
		wantParse(t, x.s, api.Num{Coef: x.coef, Scale: x.scale}, api.OK)
	}
}

func TestParseOfWhatCannotBeHeld(t *testing.T) {
	for _, s := range []string{
		"1e-10", "0.0000000001", "0.0000000015", "1.0000000001", "1000000000000000", "-1000000000000000", "1e15", "-1e15", "10e14", "0.1e16", "999999999999999.5", "9999999999999999", "9999999.999999999", "1234567890123456e-1",
		"1e99", "1e-99", "9223372036854775807", "9223372036854775808", "18446744073709551617", "340282366920938463463374607431768211457",
		"1e9223372036854775807", "1e-9223372036854775808", "1e18446744073709551616", "1e-18446744073709551617", "1e4294967296", "1e-4294967296",
		"1e99999999999999999999999999999999999999", "-1e-99999999999999999999999999999999999999",
	} {
		wantParse(t, s, api.Num{}, api.ErrNum)
	}
}

func TestParseOfWrongForm(t *testing.T) {
	for _, s := range []string{
		"", "-", "+", "+1", "--1", "-+1", ".", ".5", "-.5", "1.", "-1.", "0.", "1.e1", ".e1", "e1", "1e", "1e+", "1e-", "1E", "1e1.5", "1e++1", "1e-+1", "1ee1", "1e1e1", "1.2.3",
		"00", "01", "-01", "-00", "00.5", "01e1", "0x10", "1_000", "1,5", "1 ", " 1", "\t1", "1\n", "- 1", "1 e1", "1e 1", "Infinity", "NaN", "null", "a", "1a", "1\x00", "\x001", "\xff", "1\xff", "\u0661", "\uff11", "1\u0661", "\u22121", "1/2", "1:", "\"1\"",
		// What can't be held by its digits, and is no number all the same.
		"1e-10x", "1000000000000000x", "01000000000000000", "1e99999999999999999999999-", "0.00000000001.", "1e15 ",
	} {
		wantParse(t, s, api.Num{}, api.ErrForm)
	}
	for b := range 256 {
		s := string([]byte{byte(b)})
		if strings.Contains("0123456789", s) {
			continue
		}
		wantParse(t, s, api.Num{}, api.ErrForm)
		wantParse(t, "1"+s, api.Num{}, api.ErrForm)
		wantParse(t, "1.5e"+s, api.Num{}, api.ErrForm)
		wantParse(t, "1.5e1"+s, api.Num{}, api.ErrForm)
		if s != "-" {
			wantParse(t, s+"1", api.Num{}, api.ErrForm)
		}
		if s != "e" && s != "E" && s != "." {
			wantParse(t, "1"+s+"1", api.Num{}, api.ErrForm)
		}
	}
}

// All short texts are asked of the library.
func TestParseOfAllShortTexts(t *testing.T) {
	texts := []string{""}
	for range 6 {
		var longer []string
		for _, s := range texts {
			for _, c := range "-+.eE019" {
				longer = append(longer, s+string(c))
			}
		}
		texts = longer
		for _, s := range texts {
			if !json.Valid([]byte(s)) {
				wantParse(t, s, api.Num{}, api.ErrForm)
				continue
			}
			x, ok := new(big.Rat).SetString(s)
			if !ok {
				t.Fatalf("%q is no fraction", s)
			}
			n, errno := holder(x)
			wantParse(t, s, n, errno)
		}
	}
}

func TestParseIsExact(t *testing.T) {
	r := rand.New(rand.NewSource(3))
	for i := 0; i < 50000 && !t.Failed(); i++ {
		s := noughts(r) + strconv.FormatInt(r.Int63()>>r.Intn(63), 10) + noughts(r)
		if at := r.Intn(len(s) + 1); at < len(s) {
			s = s[:at] + "." + s[at:]
		}
		s = strings.TrimLeft(s, "0")
		if s == "" || s[0] == '.' {
			s = "0" + s
		}
		if r.Intn(2) == 0 {
			s = "-" + s
		}
		if r.Intn(2) == 0 {
			s += "e" + strconv.Itoa(r.Intn(81)-40)
		}
		x, ok := new(big.Rat).SetString(s)
		if !ok {
			t.Fatalf("%q is no fraction", s)
		}
		n, errno := holder(x)
		wantParse(t, s, n, errno)
	}
}

func noughts(r *rand.Rand) string { return strings.Repeat("0", r.Intn(12)) }

// The power of ten makes up for digits, however many there are.
func TestParseOfLongTexts(t *testing.T) {
	const long = 3000000
	zeros := strings.Repeat("0", long)
	wantParse(t, "15"+zeros+"e-3000000", api.Num{Coef: 15}, api.OK)
	wantParse(t, "15"+zeros+"e-3000009", api.Num{Coef: 15, Scale: 9}, api.OK)
	wantParse(t, "15"+zeros+"e-3000010", api.Num{}, api.ErrNum)
	wantParse(t, "15"+zeros+"e-2999987", api.Num{Coef: 150000000000000}, api.OK)
	wantParse(t, "15"+zeros+"e-2999986", api.Num{}, api.ErrNum)
	wantParse(t, "-0."+zeros+"15e3000002", api.Num{Coef: -15}, api.OK)
	wantParse(t, "0."+zeros+"15e2999993", api.Num{Coef: 15, Scale: 9}, api.OK)
	wantParse(t, "0."+zeros+"15e2999992", api.Num{}, api.ErrNum)
	wantParse(t, "0."+zeros+"15e+3000015", api.Num{Coef: 150000000000000}, api.OK)
	wantParse(t, "0."+zeros+"15e+3000016", api.Num{}, api.ErrNum)
	wantParse(t, "1e"+zeros+"3", api.Num{Coef: 1000}, api.OK)
	wantParse(t, "1e-"+zeros+"3", api.Num{Coef: 1, Scale: 3}, api.OK)
	wantParse(t, "1e-3"+zeros, api.Num{}, api.ErrNum)
	wantParse(t, "0"+zeros, api.Num{}, api.ErrForm)
	wantParse(t, "1."+zeros, api.Num{Coef: 1}, api.OK)
	wantParse(t, "1."+zeros+"1", api.Num{}, api.ErrNum)
	wantParse(t, "1"+zeros+"x", api.Num{}, api.ErrForm)
	wantParse(t, strings.Repeat("9", long), api.Num{}, api.ErrNum)
}

// Promise 4.2: Add, Sub, Mul, Div.

// reckoning is a call, and what it comes to; nil, if that is nothing.
type reckoning struct {
	call  both
	exact func(x, y *big.Rat) *big.Rat
}

func reckonings() map[string]reckoning {
	return map[string]reckoning{
		"Add": {num.Add, func(x, y *big.Rat) *big.Rat { return new(big.Rat).Add(x, y) }},
		"Sub": {num.Sub, func(x, y *big.Rat) *big.Rat { return new(big.Rat).Sub(x, y) }},
		"Mul": {num.Mul, func(x, y *big.Rat) *big.Rat { return new(big.Rat).Mul(x, y) }},
		"Div": {num.Div, quotient},
		"Mod": {num.Mod, left},
	}
}

func quotient(x, y *big.Rat) *big.Rat {
	if y.Sign() == 0 {
		return nil
	}
	return new(big.Rat).Quo(x, y)
}

func left(x, y *big.Rat) *big.Rat {
	if !x.IsInt() || !y.IsInt() || y.Sign() == 0 {
		return nil
	}
	return new(big.Rat).SetInt(new(big.Int).Rem(x.Num(), y.Num()))
}

// checkPair holds all that two numbers come to against fractions.
func checkPair(t *testing.T, a, b api.Num) {
	t.Helper()
	x, y := exact(a), exact(b)
	for title, s := range reckonings() {
		n, errno := api.Num{}, api.ErrNum
		if z := s.exact(x, y); z != nil {
			n, errno = holder(z)
		}
		got, e := s.call(a, b)
		if got != n || e != errno {
			t.Errorf("%s of %v and %v is %v, %d, not %v, %d", title, a, b, got, e, n, errno)
		}
	}
	if got := num.Cmp(a, b); got != x.Cmp(y) {
		t.Errorf("Cmp of %v and %v is %d", a, b, got)
	}
}

func TestPairs(t *testing.T) {
	all := edges()
	for i, a := range all {
		for j, b := range all {
			// Every third pair is enough, and spares seconds; TestLaws has them all.
			if (i+j)%3 == 0 || i == j {
				checkPair(t, a, b)
			}
		}
	}
	for a := int64(-30); a <= 30; a++ {
		for b := int64(-30); b <= 30; b++ {
			checkPair(t, api.Num{Coef: a}, api.Num{Coef: b})
		}
	}
}

func TestSomePairs(t *testing.T) {
	r := rand.New(rand.NewSource(4))
	for i := 0; i < 20000 && !t.Failed(); i++ {
		a, b := some(r), some(r)
		checkPair(t, a, b)
		checkPair(t, a, a)
		if c, e := num.Mul(a, b); e == api.OK {
			// So there are quotients that can be held, too.
			checkPair(t, c, b)
		}
	}
}

func made(t *testing.T, s string) api.Num {
	t.Helper()
	n, e := num.Parse(s)
	if e != api.OK {
		t.Fatalf("%s is %d", s, e)
	}
	return n
}

// wantBoth asks a call of two texts; "" is ErrNum.
func wantBoth(t *testing.T, call both, title, a, b, text string) {
	t.Helper()
	got, e := call(made(t, a), made(t, b))
	if text == "" {
		want(t, a+" "+title+" "+b, got, e, api.Num{}, api.ErrNum)
		return
	}
	want(t, a+" "+title+" "+b, got, e, made(t, text), api.OK)
}

func TestAddAndSub(t *testing.T) {
	for _, x := range [][3]string{
		{"1", "2", "3"}, {"0.5", "0.5", "1"}, {"0.1", "0.2", "0.3"}, {"1", "-1", "0"}, {"1.5", "-1.5", "0"}, {"9.95", "0.05", "10"}, {"-0.000000001", "1", "0.999999999"},
		{"999999999999998", "1", "999999999999999"}, {"999999999999999", "1", ""}, {"999999999999999", "-1", "999999999999998"}, {"-999999999999999", "-1", ""}, {"999999999999999", "999999999999999", ""},
		{"999999999999999", "0.1", ""}, {"99999999999999", "0.1", "99999999999999.1"}, {"999999999999999", "0.000000001", ""}, {"999999999999999", "-999999.999999999", ""}, {"999999.999999999", "0.000000001", "1000000"}, {"0.5", "99999999999999.5", "100000000000000"},
		{"99999999999999.9", "99999999999999.9", ""}, {"99999999999999.5", "99999999999999.5", "199999999999999"}, {"0", "0.000000001", "0.000000001"},
	} {
		wantBoth(t, num.Add, "+", x[0], x[1], x[2])
		wantBoth(t, num.Add, "+", x[1], x[0], x[2])
		minus, _ := strings.CutPrefix("-"+x[1], "--")
		wantBoth(t, num.Sub, "-", x[0], minus, x[2])
	}
	wantBoth(t, num.Sub, "-", "1", "2", "-1")
	wantBoth(t, num.Sub, "-", "-999999999999999", "1", "")
	wantBoth(t, num.Sub, "-", "0", "0.3", "-0.3")
}

func TestMul(t *testing.T) {
	for _, x := range [][3]string{
		{"2", "3", "6"}, {"0.5", "2", "1"}, {"1.5", "-1.5", "-2.25"}, {"-1.5", "-1.5", "2.25"}, {"0", "-1.5", "0"}, {"0", "999999999999999", "0"}, {"0.00001", "0.0001", "0.000000001"}, {"0.00001", "0.00001", ""}, {"0.00005", "0.00002", "0.000000001"},
		{"0.000000005", "0.2", "0.000000001"}, {"0.000000005", "0.5", ""}, {"31622776", "31622777", "999999993568952"}, {"31622777", "31622777", ""}, {"31622776", "31622776", "999999961946176"}, {"999999999999999", "1", "999999999999999"}, {"999999999999999", "-1", "-999999999999999"}, {"999999999999999", "2", ""}, {"999999999999999", "999999999999999", ""}, {"-999999999999999", "999999999999999", ""},
		{"999999999999999", "0.1", "99999999999999.9"}, {"200000000000000", "5", ""}, {"200000000000000", "0.000000005", "1000000"}, {"4294967296", "4294967296", ""}, {"137438953472", "134217728", ""}, {"100000000000000", "0.000000001", "100000"},
	} {
		wantBoth(t, num.Mul, "*", x[0], x[1], x[2])
		wantBoth(t, num.Mul, "*", x[1], x[0], x[2])
	}
}

func TestDiv(t *testing.T) {
	for _, x := range [][3]string{
		{"1", "8", "0.125"}, {"1", "3", ""}, {"2", "3", ""}, {"6", "3", "2"}, {"-6", "3", "-2"}, {"6", "-3", "-2"}, {"-6", "-3", "2"}, {"1", "-8", "-0.125"}, {"0", "5", "0"}, {"0", "-5", "0"}, {"0", "0.000000001", "0"},
		{"1", "512", "0.001953125"}, {"1", "1024", ""}, {"1", "1000000000", "0.000000001"}, {"1", "10000000000", ""}, {"10", "10000000000", "0.000000001"}, {"1", "1953125", "0.000000512"},
		{"1", "0.000000001", "1000000000"}, {"999999", "0.000000001", "999999000000000"}, {"1000000", "0.000000001", ""}, {"-1000000", "0.000000001", ""}, {"999999999999999", "0.5", ""}, {"499999999999999", "0.5", "999999999999998"}, {"999999999999999", "0.000000001", ""}, {"999999999999999", "999999999999999", "1"}, {"999999.999999999", "0.000000001", "999999999999999"},
		{"0.3", "0.1", "3"}, {"0.1", "0.3", ""}, {"1.5", "0.000000003", "500000000"}, {"999999999999999", "8", ""}, {"0.000000001", "2", ""}, {"0.000000002", "2", "0.000000001"}, {"0.000000001", "-0.000000001", "-1"},
		{"0", "0", ""}, {"1", "0", ""}, {"-0.5", "0", ""},
	} {
		wantBoth(t, num.Div, "/", x[0], x[1], x[2])
	}
}

// Promise 4.2: Mod.

func TestMod(t *testing.T) {
	for _, x := range [][3]string{
		{"7", "3", "1"}, {"-7", "3", "-1"}, {"7", "-3", "1"}, {"-7", "-3", "-1"}, {"6", "3", "0"}, {"-6", "3", "0"}, {"2", "5", "2"}, {"-2", "5", "-2"}, {"0", "5", "0"}, {"5", "1", "0"}, {"5", "-1", "0"}, {"1000", "300", "100"},
		{"999999999999999", "10", "9"}, {"-999999999999999", "999999999999998", "-1"}, {"1", "999999999999999", "1"}, {"999999999999999", "999999999999999", "0"},
		{"5", "0", ""}, {"0", "0", ""}, {"1.5", "1", ""}, {"1", "1.5", ""}, {"1.5", "0.5", ""}, {"1.5", "0", ""}, {"0", "0.000000001", ""}, {"0.000000001", "1", ""},
	} {
		wantBoth(t, num.Mod, "%", x[0], x[1], x[2])
	}
}

// Promise 4.2: Cmp.

func TestCmp(t *testing.T) {
	rising := []string{"-999999999999999", "-999999999999998", "-99999999999999.9", "-999999.999999999", "-2", "-1.5", "-1.000000001", "-1", "-0.999999999", "-0.1", "-0.000000001", "0", "0.000000001", "0.01", "0.1", "0.999999999", "1", "1.000000001", "1.5", "2", "10", "999999.999999999", "1000000", "99999999999999.9", "999999999999998", "999999999999999"}
	for i, s := range rising {
		for j, u := range rising {
			sign := 0
			if i < j {
				sign = -1
			} else if i > j {
				sign = 1
			}
			if got := num.Cmp(made(t, s), made(t, u)); got != sign {
				t.Errorf("Cmp of %s and %s is %d", s, u, got)
			}
		}
	}
}

// Promise 4.2: what may not be.

func TestWhatMayNotBe(t *testing.T) {
	right := []api.Num{{}, {Coef: 1}, {Coef: -5}, {Coef: most}, {Coef: 15, Scale: 1}, {Coef: -1, Scale: 9}}
	for _, n := range strange {
		for _, other := range append(right, strange...) {
			for title, s := range reckonings() {
				got, e := s.call(n, other)
				want(t, title+" with the left one wrong", got, e, api.Num{}, api.ErrArg)
				got, e = s.call(other, n)
				want(t, title+" with the right one wrong", got, e, api.Num{}, api.ErrArg)
			}
			if num.Cmp(n, other) != 0 || num.Cmp(other, n) != 0 {
				t.Errorf("Cmp of %v and %v isn't 0", n, other)
			}
		}
		if got := num.Floor(n); got != (api.Num{}) {
			t.Errorf("Floor of %v is %v", n, got)
		}
		if got, ok := num.Whole(n); got != 0 || ok {
			t.Errorf("Whole of %v is %d, %v", n, got, ok)
		}
	}
}

// Promise 4.2: Floor and Whole.

func TestFloor(t *testing.T) {
	for _, x := range [][2]string{
		{"0", "0"}, {"1", "1"}, {"-1", "-1"}, {"10", "10"}, {"1.5", "1"}, {"-1.5", "-2"}, {"0.5", "0"}, {"-0.5", "-1"}, {"0.999999999", "0"}, {"-0.999999999", "-1"}, {"0.000000001", "0"}, {"-0.000000001", "-1"}, {"9.9", "9"}, {"-9.9", "-10"}, {"-9.1", "-10"},
		{"999999999999999", "999999999999999"}, {"-999999999999999", "-999999999999999"}, {"99999999999999.9", "99999999999999"}, {"-99999999999999.9", "-100000000000000"}, {"-999999.999999999", "-1000000"}, {"1000000.5", "1000000"},
	} {
		if got := num.Floor(made(t, x[0])); got != made(t, x[1]) {
			t.Errorf("Floor of %s is %v", x[0], got)
		}
	}
	r := rand.New(rand.NewSource(5))
	one := big.NewRat(1, 1)
	for i := 0; i < 20000 && !t.Failed(); i++ {
		n := some(r)
		f := num.Floor(n)
		gap := new(big.Rat).Sub(exact(n), exact(f))
		if !num.Is(f) || f.Scale != 0 || gap.Sign() < 0 || gap.Cmp(one) >= 0 {
			t.Errorf("Floor of %v is %v", n, f)
		}
	}
}

func TestWhole(t *testing.T) {
	for _, n := range []int{0, 1, -1, 10, -1500, 1 << 40, most, -most} {
		if got, ok := num.Whole(api.Num{Coef: int64(n)}); got != n || !ok {
			t.Errorf("Whole of %d is %d, %v", n, got, ok)
		}
	}
	for _, s := range []string{"1.5", "-1.5", "0.5", "0.000000001", "-0.000000001", "99999999999999.9", "100000.000000001"} {
		if got, ok := num.Whole(made(t, s)); got != 0 || ok {
			t.Errorf("Whole of %s is %d, %v", s, got, ok)
		}
	}
}

// Promise 4.3.

func checkParsed(t *testing.T, n api.Num) {
	t.Helper()
	s := num.Text(n)
	if got, e := num.Parse(s); got != n || e != api.OK {
		t.Errorf("%v is told as %s, which is parsed as %v, %d", n, s, got, e)
	}
}

func checkLaws(t *testing.T, a, b api.Num) {
	t.Helper()
	for title, call := range map[string]both{"Add": num.Add, "Mul": num.Mul} {
		x, e := call(a, b)
		y, f := call(b, a)
		if x != y || e != f {
			t.Errorf("%s of %v and %v is %v, %d; the other way round %v, %d", title, a, b, x, e, y, f)
		}
		if e == api.OK {
			checkParsed(t, x)
		}
	}
	sum, e := num.Add(a, b)
	if e != api.OK {
		return
	}
	if got, e := num.Sub(sum, b); got != a || e != api.OK {
		t.Errorf("%v and %v are %v; without the latter %v, %d", a, b, sum, got, e)
	}
	if got, e := num.Sub(sum, a); got != b || e != api.OK {
		t.Errorf("%v and %v are %v; without the former %v, %d", a, b, sum, got, e)
	}
}

func TestLaws(t *testing.T) {
	all := edges()
	for _, a := range all {
		checkParsed(t, a)
		for _, b := range all {
			checkLaws(t, a, b)
		}
	}
	r := rand.New(rand.NewSource(6))
	for i := 0; i < 50000 && !t.Failed(); i++ {
		a, b := some(r), some(r)
		checkParsed(t, a)
		checkLaws(t, a, b)
	}
}
