package level_test

import (
	"math"
	"math/rand"
	"strconv"
	"strings"
	"testing"

	"keyhole/api"
	"keyhole/level"
)

// strange are numbers that are no levels, of however many levels there are.
var strange = []int{-1, -2, api.MaxLevels, api.MaxLevels + 1, math.MaxInt, math.MinInt}

// shapes are lattices, each with its size, its bottom and its top.
var shapes = []struct {
	title       string
	size        int
	below       [][2]int
	bottom, top int
}{
	{"one", 1, nil, 0, 0},
	{"one, below itself", 1, [][2]int{{0, 0}}, 0, 0},
	{"chain of two", 2, [][2]int{{0, 1}}, 0, 1},
	{"chain of two, turned about", 2, [][2]int{{1, 0}}, 1, 0},
	{"a pair twice", 2, [][2]int{{0, 1}, {0, 1}, {1, 1}}, 0, 1},
	{"chain of three, out of order", 3, [][2]int{{2, 0}, {1, 2}}, 1, 0},
	{"diamond", 4, [][2]int{{0, 1}, {0, 2}, {1, 3}, {2, 3}}, 0, 3},
	{"diamond, bottom and top between", 4, [][2]int{{2, 0}, {2, 3}, {0, 1}, {3, 1}}, 2, 1},
	{"three side by side", 5, [][2]int{{0, 1}, {0, 2}, {0, 3}, {1, 4}, {2, 4}, {3, 4}}, 0, 4},
	{"pentagon", 5, [][2]int{{0, 1}, {1, 2}, {2, 4}, {0, 3}, {3, 4}}, 0, 4},
	{"chain of eight", 8, [][2]int{{0, 1}, {1, 2}, {2, 3}, {3, 4}, {4, 5}, {5, 6}, {6, 7}}, 0, 7},
	{"chain of eight, downwards", 8, [][2]int{{7, 6}, {6, 5}, {5, 4}, {4, 3}, {3, 2}, {2, 1}, {1, 0}}, 7, 0},
	{"cube", 8, cube(), 0, 7},
}

// cube has the sets of three things, as bits, each below those that have one more.
func cube() [][2]int {
	var pairs [][2]int
	for a := range 8 {
		for bit := 1; bit < 8; bit *= 2 {
			if a&bit == 0 {
				pairs = append(pairs, [2]int{a, a | bit})
			}
		}
	}
	return pairs
}

func names(n int) []string {
	var s []string
	for i := range n {
		s = append(s, "l"+strconv.Itoa(i))
	}
	return s
}

func policy(n int, below ...[2]int) api.Policy {
	return api.Policy{Names: names(n), Below: below}
}

func mustNew(t *testing.T, p api.Policy) *level.Lattice {
	t.Helper()
	l, e := level.New(p)
	if e != api.OK || l == nil {
		t.Fatalf("New(%v) is refused: %d", p, e)
	}
	return l
}

func wantError(t *testing.T, title string, p api.Policy, want api.Errno) {
	t.Helper()
	l, e := level.New(p)
	if e != want || l != nil {
		t.Errorf("%s: New is %v, %d, not nil, %d", title, l, e, want)
	}
}

// model says by the document's words which levels are below which.
type model struct {
	size  int
	pairs [][2]int
}

func (m model) leads(from, to int, seen map[int]bool) bool {
	if from == to {
		return true
	}
	seen[from] = true
	for _, p := range m.pairs {
		if p[0] == from && !seen[p[1]] && m.leads(p[1], to, seen) {
			return true
		}
	}
	return false
}

func (m model) leq(a, b int) bool { return m.leads(a, b, map[int]bool{}) }

// extremes are the levels that are joins (or, turned about, meets) of two.
func (m model) extremes(a, b int, leq func(a, b int) bool) []int {
	var bounds, out []int
	for c := range m.size {
		if leq(a, c) && leq(b, c) {
			bounds = append(bounds, c)
		}
	}
	for _, c := range bounds {
		all := true
		for _, d := range bounds {
			all = all && leq(c, d)
		}
		if all {
			out = append(out, c)
		}
	}
	return out
}

func (m model) joins(a, b int) []int { return m.extremes(a, b, m.leq) }

func (m model) meets(a, b int) []int {
	return m.extremes(a, b, func(a, b int) bool { return m.leq(b, a) })
}

func (m model) right() bool {
	for a := range m.size {
		for b := range m.size {
			if a != b && m.leq(a, b) && m.leq(b, a) {
				return false
			}
			if len(m.joins(a, b)) == 0 || len(m.meets(a, b)) == 0 {
				return false
			}
		}
	}
	return true
}

// Promise 1.1: names.

func TestName(t *testing.T) {
	for _, s := range []string{"a", "z", "low", "a0", "z9", "a1b2", "x09", strings.Repeat("a", api.MaxName), "a" + strings.Repeat("9", api.MaxName-1)} {
		if !level.Name(s) {
			t.Errorf("%q is a name", s)
		}
	}
	wrong := []string{"", "0", "9", "0a", "A", "Low", "aB", "a-b", "a b", " a", "a ", "a_b", "a.", "é", "aé", "a\x00", "\xff", "a\n", "`", "{", "a`", "a{", "a/", "a:", "a@", "a[", "ａ", "a１", strings.Repeat("a", api.MaxName+1), strings.Repeat("a", 100000)}
	for _, s := range wrong {
		if level.Name(s) {
			t.Errorf("%q isn't a name", s)
		}
	}
}

func TestNameOfEachByte(t *testing.T) {
	for c := range 256 {
		s := string([]byte{byte(c)})
		small := strings.Contains("abcdefghijklmnopqrstuvwxyz", s)
		if got := level.Name(s); got != small {
			t.Errorf("Name(%q) is %v", s, got)
		}
		for _, text := range []string{"a" + s, "a" + s + "b"} {
			if got, want := level.Name(text), small || strings.Contains("0123456789", s); got != want {
				t.Errorf("Name(%q) is %v", text, got)
			}
		}
	}
}

// Promise 1.1: errors of New.

func TestNewNames(t *testing.T) {
	for n := 1; n <= api.MaxLevels; n++ {
		var chain [][2]int
		for a := 1; a < n; a++ {
			chain = append(chain, [2]int{a - 1, a})
		}
		mustNew(t, policy(n, chain...))
	}
	wantError(t, "no names, nil", api.Policy{}, api.ErrName)
	wantError(t, "no names, empty", api.Policy{Names: []string{}}, api.ErrName)
	wantError(t, "nine names", policy(api.MaxLevels+1), api.ErrName)
	wantError(t, "many names", policy(10000), api.ErrName)
	for _, s := range []string{"", "Low", "1a", "a b", "é", strings.Repeat("a", api.MaxName+1)} {
		wantError(t, "alone: "+s, api.Policy{Names: []string{s}}, api.ErrName)
		for i := range 3 {
			p := policy(3, [2]int{0, 1}, [2]int{1, 2})
			p.Names[i] = s
			wantError(t, "in place: "+s, p, api.ErrName)
		}
	}
	for i := range api.MaxLevels {
		for j := range i {
			p := policy(api.MaxLevels, cube()...)
			p.Names[i] = p.Names[j]
			wantError(t, "the same names", p, api.ErrName)
		}
	}
}

func TestNewPairs(t *testing.T) {
	full := make([][2]int, api.MaxPairs)
	for i := range full {
		full[i] = [2]int{0, 1}
	}
	mustNew(t, policy(2, full...))
	wantError(t, "65 pairs", policy(2, append(full, [2]int{0, 1})...), api.ErrRange)
	for _, a := range append([]int{2, 3}, strange...) {
		wantError(t, "first one is no level", policy(2, [2]int{0, 1}, [2]int{a, 1}), api.ErrRange)
		wantError(t, "second one is no level", policy(2, [2]int{0, 1}, [2]int{0, a}), api.ErrRange)
		wantError(t, "neither is a level", policy(2, [2]int{a, a}, [2]int{0, 1}), api.ErrRange)
	}
	for n := 1; n < api.MaxLevels; n++ {
		wantError(t, "one past the last", policy(n, [2]int{0, n}), api.ErrRange)
	}
}

func TestNewOrder(t *testing.T) {
	crossed := [][2]int{{0, 1}, {0, 2}, {1, 3}, {1, 4}, {2, 3}, {2, 4}, {3, 5}, {4, 5}}
	wrong := []struct {
		title string
		size  int
		below [][2]int
	}{
		{"two apart", 2, nil},
		{"two apart, each below itself", 2, [][2]int{{0, 0}, {1, 1}}},
		{"two below one another", 2, [][2]int{{0, 1}, {1, 0}}},
		{"three in a ring", 3, [][2]int{{0, 1}, {1, 2}, {2, 0}}},
		{"eight in a ring", 8, [][2]int{{0, 1}, {1, 2}, {2, 3}, {3, 4}, {4, 5}, {5, 6}, {6, 7}, {7, 0}}},
		{"a ring between bottom and top", 4, [][2]int{{0, 1}, {1, 2}, {2, 1}, {2, 3}}},
		{"no join", 3, [][2]int{{0, 1}, {0, 2}}},
		{"no meet", 3, [][2]int{{0, 2}, {1, 2}}},
		{"two chains", 4, [][2]int{{0, 1}, {2, 3}}},
		{"two joins and two meets", 6, crossed},
		{"one level apart", 7, crossed},
		{"chain of eight with a gap", 8, [][2]int{{0, 1}, {1, 2}, {2, 3}, {4, 5}, {5, 6}, {6, 7}}},
	}
	for _, w := range wrong {
		wantError(t, w.title, policy(w.size, w.below...), api.ErrOrder)
	}
}

func TestNewErrorsInOrder(t *testing.T) {
	twice := []string{"a", "a"}
	ring := [][2]int{{0, 1}, {1, 0}}
	wantError(t, "names ahead of pairs", api.Policy{Names: twice, Below: [][2]int{{0, 2}}}, api.ErrName)
	wantError(t, "names ahead of order", api.Policy{Names: twice, Below: ring}, api.ErrName)
	wantError(t, "none ahead of pairs", api.Policy{Below: [][2]int{{0, 0}}}, api.ErrName)
	wantError(t, "pairs ahead of order", policy(2, append(ring, [2]int{0, 2})...), api.ErrRange)
	wantError(t, "pairs ahead of no join", policy(3, [2]int{0, 3}), api.ErrRange)
	many := make([][2]int, api.MaxPairs+1)
	wantError(t, "many pairs ahead of order", policy(2, many...), api.ErrRange)
	wantError(t, "many pairs behind names", api.Policy{Names: twice, Below: many}, api.ErrName)
}

func TestPrincipalsPlayNoPart(t *testing.T) {
	p := policy(2, [2]int{0, 1})
	p.Principals = []api.Principal{{Name: "", Over: []int{9, -1}}, {Name: "X"}, {Name: "X"}}
	for range api.MaxPrincipals {
		p.Principals = append(p.Principals, api.Principal{})
	}
	if l := mustNew(t, p); l.Size() != 2 || l.Top() != 1 {
		t.Error("principals have changed the levels")
	}
}

func TestPolicyIsNeitherChangedNorKept(t *testing.T) {
	p := policy(3, [2]int{0, 1}, [2]int{1, 2})
	l := mustNew(t, p)
	for i, s := range names(3) {
		if p.Names[i] != s {
			t.Error("a name was changed")
		}
	}
	if p.Below[0] != [2]int{0, 1} || p.Below[1] != [2]int{1, 2} {
		t.Error("a pair was changed")
	}
	p.Names[0], p.Below[0], p.Below[1] = "other", [2]int{2, 1}, [2]int{1, 0}
	if l.Text(0) != "l0" || !l.Leq(0, 2) || l.Leq(2, 0) {
		t.Error("the lattice has kept the policy's lists")
	}
}

// Promise 1.2.

func TestShapes(t *testing.T) {
	for _, s := range shapes {
		l := mustNew(t, policy(s.size, s.below...))
		if l.Bottom() != s.bottom || l.Top() != s.top {
			t.Errorf("%s: bottom %d, top %d", s.title, l.Bottom(), l.Top())
		}
		checkModel(t, l, model{s.size, s.below})
		checkLaws(t, l)
		checkNoLevels(t, l)
	}
}

func TestDiamond(t *testing.T) {
	l := mustNew(t, policy(4, [2]int{0, 1}, [2]int{0, 2}, [2]int{1, 3}, [2]int{2, 3}))
	if l.Join(1, 2) != 3 || l.Meet(1, 2) != 0 || l.Join(0, 2) != 2 || l.Meet(1, 3) != 1 {
		t.Error("joins and meets of a diamond")
	}
	if l.Leq(1, 2) || l.Leq(2, 1) || !l.Leq(0, 3) || l.Leq(3, 0) || !l.Leq(2, 2) {
		t.Error("what is below what in a diamond")
	}
}

func TestTextAndFind(t *testing.T) {
	long := strings.Repeat("a", api.MaxName)
	l := mustNew(t, api.Policy{Names: []string{"low", "mid", long}, Below: [][2]int{{0, 1}, {1, 2}}})
	for a, s := range []string{"low", "mid", long} {
		if l.Text(a) != s {
			t.Errorf("Text(%d) is %q", a, l.Text(a))
		}
		if b, ok := l.Find(s); b != a || !ok {
			t.Errorf("Find(%q) is %d, %v", s, b, ok)
		}
	}
	for _, s := range []string{"", "lo", "lows", "LOW", "high", long + "a", "l\xff"} {
		if a, ok := l.Find(s); a != 0 || ok {
			t.Errorf("Find(%q) is %d, %v", s, a, ok)
		}
	}
}

func TestNilLattice(t *testing.T) {
	var l *level.Lattice
	if l.Size() != 0 || l.Bottom() != 0 || l.Top() != 0 {
		t.Error("a nil lattice has levels")
	}
	for _, s := range []string{"", "low"} {
		if a, ok := l.Find(s); a != 0 || ok {
			t.Errorf("Find(%q) of a nil lattice is %d, %v", s, a, ok)
		}
	}
	places := append([]int{0, 1, 7}, strange...)
	for _, a := range places {
		if l.Is(a) || l.Text(a) != "" {
			t.Errorf("%d is a level of a nil lattice", a)
		}
		for _, b := range places {
			if l.Leq(a, b) || l.Join(a, b) != 0 || l.Meet(a, b) != 0 {
				t.Errorf("%d, %d of a nil lattice", a, b)
			}
		}
	}
}

// Promises 1.1, 1.2 and 1.3, of whatever pairs there are.

func TestAllPairsOfUpToFour(t *testing.T) {
	for n := 1; n <= 4; n++ {
		var may [][2]int
		for a := range n {
			for b := range n {
				if a != b {
					may = append(may, [2]int{a, b})
				}
			}
		}
		for set := range 1 << len(may) {
			var pairs [][2]int
			for i, p := range may {
				if set>>i&1 == 1 {
					pairs = append(pairs, p)
				}
			}
			checkNew(t, n, pairs)
		}
	}
}

func TestSomePairsOfMore(t *testing.T) {
	r := rand.New(rand.NewSource(1))
	right, wrong := 0, 0
	for range 3000 {
		n := 5 + r.Intn(api.MaxLevels-4)
		places := r.Perm(n)
		var pairs [][2]int
		for a := 1; a < n; a++ { // with a bottom and a top, so that many are lattices
			pairs = append(pairs, [2]int{places[0], places[a]}, [2]int{places[a], places[n-1]})
		}
		for range r.Intn(2 * n) {
			a, b := 1+r.Intn(n-2), 1+r.Intn(n-2)
			if a > b && r.Intn(20) > 0 {
				a, b = b, a
			}
			pairs = append(pairs, [2]int{places[a], places[b]})
		}
		r.Shuffle(len(pairs), func(i, j int) { pairs[i], pairs[j] = pairs[j], pairs[i] })
		if checkNew(t, n, pairs) {
			right++
		} else {
			wrong++
		}
	}
	if right < 200 || wrong < 200 {
		t.Errorf("%d right, %d wrong: too few of one sort", right, wrong)
	}
}

// checkNew holds New against the model, and tells whether it is a lattice.
func checkNew(t *testing.T, n int, pairs [][2]int) bool {
	t.Helper()
	m := model{n, pairs}
	if !m.right() {
		wantError(t, "not right", policy(n, pairs...), api.ErrOrder)
		return false
	}
	l := mustNew(t, policy(n, pairs...))
	checkModel(t, l, m)
	checkLaws(t, l)
	checkNoLevels(t, l)
	return true
}

func checkModel(t *testing.T, l *level.Lattice, m model) {
	t.Helper()
	if l.Size() != m.size {
		t.Fatalf("%v: size %d", m, l.Size())
	}
	for a := range m.size {
		if !l.Is(a) || l.Text(a) != "l"+strconv.Itoa(a) {
			t.Errorf("%v: level %d: %v, %q", m, a, l.Is(a), l.Text(a))
		}
		if !m.leq(l.Bottom(), a) || !m.leq(a, l.Top()) {
			t.Errorf("%v: bottom %d, top %d", m, l.Bottom(), l.Top())
		}
		for b := range m.size {
			if l.Leq(a, b) != m.leq(a, b) {
				t.Errorf("%v: Leq(%d, %d) is %v", m, a, b, l.Leq(a, b))
			}
			if j := m.joins(a, b); len(j) != 1 || l.Join(a, b) != j[0] {
				t.Errorf("%v: Join(%d, %d) is %d, not %v", m, a, b, l.Join(a, b), j)
			}
			if j := m.meets(a, b); len(j) != 1 || l.Meet(a, b) != j[0] {
				t.Errorf("%v: Meet(%d, %d) is %d, not %v", m, a, b, l.Meet(a, b), j)
			}
		}
	}
}

// checkLaws is promise 1.3.
func checkLaws(t *testing.T, l *level.Lattice) {
	t.Helper()
	for a := range l.Size() {
		for b := range l.Size() {
			j, m := l.Join(a, b), l.Meet(a, b)
			if !l.Is(j) || !l.Is(m) || j != l.Join(b, a) || m != l.Meet(b, a) {
				t.Errorf("%d and %d: not one level whichever way round", a, b)
			}
			if l.Join(a, m) != a || l.Meet(a, j) != a {
				t.Errorf("%d and %d: not absorbed", a, b)
			}
			if l.Leq(a, b) != (j == b) || l.Leq(a, b) != (m == a) {
				t.Errorf("%d and %d: Leq says otherwise than join and meet", a, b)
			}
			for c := range l.Size() {
				if l.Join(j, c) != l.Join(a, l.Join(b, c)) || l.Meet(m, c) != l.Meet(a, l.Meet(b, c)) {
					t.Errorf("%d, %d and %d: which ones go first changes it", a, b, c)
				}
			}
		}
	}
}

// checkNoLevels asks of numbers that are no levels, alone and beside those that are.
func checkNoLevels(t *testing.T, l *level.Lattice) {
	t.Helper()
	for _, a := range append([]int{l.Size()}, strange...) {
		if l.Is(a) || l.Text(a) != "" || l.Leq(a, a) {
			t.Errorf("%d of %d is a level", a, l.Size())
		}
		if l.Join(a, a) != l.Top() || l.Meet(a, a) != l.Bottom() {
			t.Errorf("%d twice: join %d, meet %d", a, l.Join(a, a), l.Meet(a, a))
		}
		for b := range l.Size() {
			if l.Leq(a, b) || l.Leq(b, a) {
				t.Errorf("%d and %d: one is below the other", a, b)
			}
			if l.Join(a, b) != l.Top() || l.Join(b, a) != l.Top() || l.Meet(a, b) != l.Bottom() || l.Meet(b, a) != l.Bottom() {
				t.Errorf("%d and %d: neither top nor bottom", a, b)
			}
		}
	}
	for _, s := range []string{"", "l", "l8", "L0"} {
		if a, ok := l.Find(s); a != 0 || ok {
			t.Errorf("Find(%q) is %d, %v", s, a, ok)
		}
	}
	for a := range l.Size() {
		if b, ok := l.Find("l" + strconv.Itoa(a)); b != a || !ok {
			t.Errorf("level %d is found as %d, %v", a, b, ok)
		}
	}
}
