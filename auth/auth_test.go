package auth_test

import (
	"math"
	"math/rand"
	"reflect"
	"slices"
	"strconv"
	"strings"
	"testing"

	"keyhole/api"
	"keyhole/auth"
	"keyhole/level"
)

// strange are numbers that are a level of no lattice.
var strange = []int{-1, api.MaxLevels, api.MaxLevels + 1, 64, 256, 1 << 32, math.MaxInt32, math.MinInt32, math.MaxInt, math.MinInt}

// shapes are lattices by their sizes and pairs; some have their bottom and their top elsewhere than at the ends.
var shapes = []struct {
	title string
	size  int
	below [][2]int
}{
	{"one level", 1, nil},
	{"low, high", 2, [][2]int{{0, 1}}},
	{"high, low", 2, [][2]int{{1, 0}}},
	{"chain of four", 4, [][2]int{{0, 1}, {1, 2}, {2, 3}}},
	{"chain of four, mixed", 4, [][2]int{{2, 0}, {0, 3}, {3, 1}}},
	{"diamond", 4, [][2]int{{0, 1}, {0, 2}, {1, 3}, {2, 3}}},
	{"diamond, bottom last", 4, [][2]int{{3, 1}, {3, 2}, {1, 0}, {2, 0}}},
	{"five, three side by side", 5, [][2]int{{0, 1}, {0, 2}, {0, 3}, {1, 4}, {2, 4}, {3, 4}}},
	{"pentagon", 5, [][2]int{{0, 1}, {1, 2}, {0, 3}, {2, 4}, {3, 4}}},
	{"chain of eight", 8, [][2]int{{0, 1}, {1, 2}, {2, 3}, {3, 4}, {4, 5}, {5, 6}, {6, 7}}},
	{"cube", 8, [][2]int{{0, 1}, {0, 2}, {0, 4}, {1, 3}, {1, 5}, {2, 3}, {2, 6}, {4, 5}, {4, 6}, {3, 7}, {5, 7}, {6, 7}}},
}

func lattice(t *testing.T, size int, below ...[2]int) *level.Lattice {
	t.Helper()
	p := api.Policy{Below: below}
	for a := range size {
		p.Names = append(p.Names, "l"+strconv.Itoa(a))
	}
	l, e := level.New(p)
	if e != api.OK {
		t.Fatalf("%d levels, %v: error %d", size, below, e)
	}
	return l
}

func diamond(t *testing.T) *level.Lattice {
	t.Helper()
	return lattice(t, 4, [2]int{0, 1}, [2]int{0, 2}, [2]int{1, 3}, [2]int{2, 3})
}

func one(name string, over ...int) api.Principal {
	return api.Principal{Name: name, Over: over}
}

// crowd is n principals with names that are unlike.
func crowd(n int, over ...int) []api.Principal {
	var p []api.Principal
	for i := range n {
		p = append(p, one("p"+strconv.Itoa(i), over...))
	}
	return p
}

func wantCheck(t *testing.T, title string, l *level.Lattice, p []api.Principal, want api.Errno) {
	t.Helper()
	if got := auth.Check(l, p); got != want {
		t.Errorf("%s: Check is %d, not %d", title, got, want)
	}
}

// Promise 2.1: Check.

func TestCheckRight(t *testing.T) {
	l := diamond(t)
	wantCheck(t, "nobody, nil", l, nil, api.OK)
	wantCheck(t, "nobody, empty", l, []api.Principal{}, api.OK)
	wantCheck(t, "over nothing, nil", l, []api.Principal{{Name: "ann"}}, api.OK)
	wantCheck(t, "over nothing, empty", l, []api.Principal{{Name: "ann", Over: []int{}}}, api.OK)
	for set := range 1 << 4 {
		var over []int
		for a := range 4 {
			if set>>a&1 == 1 {
				over = append(over, a)
			}
		}
		wantCheck(t, "over some levels", l, []api.Principal{one("ann", over...)}, api.OK)
	}
	wantCheck(t, "two over the same", l, []api.Principal{one("ann", 1, 2), one("bob", 1, 2)}, api.OK)
	for n := range api.MaxPrincipals + 1 {
		wantCheck(t, strconv.Itoa(n)+" principals", l, crowd(n, 0, 3), api.OK)
	}
	wantCheck(t, "named like a level", l, []api.Principal{one("l0", 0), one("l1", 3)}, api.OK)
	eight := lattice(t, 8, shapes[9].below...)
	wantCheck(t, "over all eight", eight, crowd(api.MaxPrincipals, 0, 1, 2, 3, 4, 5, 6, 7), api.OK)
}

func TestCheckRisesAsNumbers(t *testing.T) {
	turned := lattice(t, 2, [2]int{1, 0})
	wantCheck(t, "rising as numbers, sinking as levels", turned, []api.Principal{one("ann", 0, 1)}, api.OK)
	wantCheck(t, "sinking as numbers, rising as levels", turned, []api.Principal{one("ann", 1, 0)}, api.ErrRange)
	wantCheck(t, "neither is below the other", diamond(t), []api.Principal{one("ann", 1, 2)}, api.OK)
}

func TestCheckNames(t *testing.T) {
	l := diamond(t)
	wantCheck(t, "nine", l, crowd(api.MaxPrincipals+1), api.ErrName)
	wantCheck(t, "many", l, crowd(10000, 0), api.ErrName)
	long := strings.Repeat("a", api.MaxName)
	for _, s := range []string{"a", "z9", long} {
		wantCheck(t, "name "+s, l, []api.Principal{one(s, 1)}, api.OK)
	}
	for _, s := range []string{"", "Ann", "1a", "a b", "a-b", "é", "a\x00", "\xff", long + "a"} {
		wantCheck(t, "alone: "+s, l, []api.Principal{one(s, 1)}, api.ErrName)
		for i := range api.MaxPrincipals {
			p := crowd(api.MaxPrincipals, 1)
			p[i].Name = s
			wantCheck(t, "in place "+strconv.Itoa(i)+": "+s, l, p, api.ErrName)
		}
	}
	for i := range api.MaxPrincipals {
		for j := range i {
			p := crowd(api.MaxPrincipals, 1)
			p[i].Name = p[j].Name
			p[i].Over = []int{2}
			wantCheck(t, "the same names", l, p, api.ErrName)
		}
	}
}

func TestCheckLevels(t *testing.T) {
	l := diamond(t)
	wrong := [][]int{{4}, {0, 4}, {0, 1, 2, 3, 4}, {0, 0}, {3, 3}, {1, 0}, {3, 2, 1, 0}, {0, 2, 1}, {0, 1, 1}, {1, 3, 2}, {-1, 0}, {0, 3, -1}}
	for _, a := range strange {
		wrong = append(wrong, []int{a}, []int{0, a}, []int{a, 3})
	}
	for _, over := range wrong {
		wantCheck(t, "alone", l, []api.Principal{one("ann", over...)}, api.ErrRange)
		for i := range api.MaxPrincipals {
			p := crowd(api.MaxPrincipals, 0, 3)
			p[i].Over = over
			wantCheck(t, "in place "+strconv.Itoa(i), l, p, api.ErrRange)
		}
	}
	for _, s := range shapes {
		l := lattice(t, s.size, s.below...)
		wantCheck(t, s.title+": the last", l, []api.Principal{one("ann", s.size-1)}, api.OK)
		wantCheck(t, s.title+": one past the last", l, []api.Principal{one("ann", s.size)}, api.ErrRange)
	}
}

func TestCheckErrorsInOrder(t *testing.T) {
	l := diamond(t)
	wantCheck(t, "no name ahead of no level", l, []api.Principal{one("", 9)}, api.ErrName)
	wantCheck(t, "no name behind one over no level", l, []api.Principal{one("ann", 9), one("")}, api.ErrName)
	wantCheck(t, "same names behind one that sinks", l, []api.Principal{one("ann", 2, 1), one("bob"), one("bob")}, api.ErrName)
	wantCheck(t, "too many ahead of no level", l, crowd(api.MaxPrincipals+1, 9), api.ErrName)
}

func TestCheckOfNoLattice(t *testing.T) {
	wantCheck(t, "nobody", nil, nil, api.OK)
	wantCheck(t, "over nothing", nil, []api.Principal{one("ann")}, api.OK)
	wantCheck(t, "over something", nil, []api.Principal{one("ann", 0)}, api.ErrRange)
	wantCheck(t, "no name", nil, []api.Principal{one("", 0)}, api.ErrName)
}

// Promise 2.1: Find.

func wantFind(t *testing.T, p []api.Principal, name string, place int, there bool) {
	t.Helper()
	if i, ok := auth.Find(p, name); i != place || ok != there {
		t.Errorf("Find(%v, %q) is %d, %v", p, name, i, ok)
	}
}

func TestFind(t *testing.T) {
	p := crowd(api.MaxPrincipals)
	for i := range p {
		wantFind(t, p, p[i].Name, i, true)
	}
	for _, s := range []string{"", "p", "p8", "p00", "P0", "p0 ", "\xff", strings.Repeat("p", 100000)} {
		wantFind(t, p, s, 0, false)
	}
	wantFind(t, nil, "ann", 0, false)
	wantFind(t, nil, "", 0, false)
	wantFind(t, []api.Principal{}, "ann", 0, false)
}

func TestFindIsTheFirst(t *testing.T) {
	p := []api.Principal{one("ann"), one("bob", 1), one("bob", 2), one("ann", 3), one("", 9), one("")}
	wantFind(t, p, "ann", 0, true)
	wantFind(t, p, "bob", 1, true)
	wantFind(t, p, "", 4, true)
	wantFind(t, append(crowd(1000), one("late")), "late", 1000, true)
}

// Promise 2.2.

func wantReach(t *testing.T, l *level.Lattice, p []api.Principal, name string, want ...int) {
	t.Helper()
	if got := auth.Reach(l, p, name); !slices.Equal(got, want) {
		t.Errorf("Reach(%v, %q) is %v, not %v", p, name, got, want)
	}
	for a := -2; a < api.MaxLevels+2; a++ {
		if got := auth.Over(l, p, name, a); got != slices.Contains(want, a) {
			t.Errorf("Over(%v, %q, %d) is %v", p, name, a, got)
		}
	}
	for _, a := range strange {
		if auth.Over(l, p, name, a) {
			t.Errorf("Over(%v, %q, %d): it is no level", p, name, a)
		}
	}
}

func TestReachOfLowHigh(t *testing.T) {
	p := []api.Principal{one("ann", 0), one("bob", 1), one("cid"), one("dan", 0, 1)}
	l := lattice(t, 2, [2]int{0, 1})
	wantReach(t, l, p, "ann", 0)
	wantReach(t, l, p, "bob", 0, 1)
	wantReach(t, l, p, "cid")
	wantReach(t, l, p, "dan", 0, 1)
	turned := lattice(t, 2, [2]int{1, 0})
	wantReach(t, turned, p, "ann", 0, 1)
	wantReach(t, turned, p, "bob", 1)
}

func TestReachOfDiamond(t *testing.T) {
	l := diamond(t)
	wantReach(t, l, []api.Principal{one("ann", 0)}, "ann", 0)
	wantReach(t, l, []api.Principal{one("ann", 1)}, "ann", 0, 1)
	wantReach(t, l, []api.Principal{one("ann", 2)}, "ann", 0, 2)
	wantReach(t, l, []api.Principal{one("ann", 3)}, "ann", 0, 1, 2, 3)
	// Authority over both sides is not authority over their join.
	wantReach(t, l, []api.Principal{one("ann", 1, 2)}, "ann", 0, 1, 2)
}

func TestReachOfNobody(t *testing.T) {
	l := diamond(t)
	p := []api.Principal{one("ann", 3)}
	for _, s := range []string{"", "bob", "an", "anna", "Ann"} {
		wantReach(t, l, p, s)
	}
	wantReach(t, l, nil, "ann")
	wantReach(t, l, nil, "")
	wantReach(t, nil, p, "ann")
	wantReach(t, nil, nil, "")
}

func TestReachIsOfTheFirst(t *testing.T) {
	l := diamond(t)
	p := []api.Principal{one("bob"), one("ann", 1), one("ann", 3), one("bob", 3)}
	wantReach(t, l, p, "ann", 0, 1)
	wantReach(t, l, p, "bob")
}

// Principals that aren't right: a number that is no level gives no authority, and levels count however they stand.
func TestReachOfWrongPrincipals(t *testing.T) {
	l := diamond(t)
	wantReach(t, l, []api.Principal{one("ann", strange...)}, "ann")
	wantReach(t, l, []api.Principal{one("ann", 4)}, "ann")
	wantReach(t, l, []api.Principal{one("ann", 9, 2, -1, 1, 1)}, "ann", 0, 1, 2)
	wantReach(t, l, []api.Principal{one("", 1)}, "", 0, 1)
	wantReach(t, l, append(crowd(20, 0), one("ann", 2)), "ann", 0, 2)
}

// Promises 2.2 and 2.3, of all that one may be Over.
func TestAllOfShapes(t *testing.T) {
	for _, s := range shapes {
		l := lattice(t, s.size, s.below...)
		for set := range 1 << s.size {
			var over, want []int
			for a := range s.size {
				if set>>a&1 == 1 {
					over = append(over, a)
				}
			}
			for a := range s.size {
				if slices.ContainsFunc(over, func(b int) bool { return leads(s.below, a, b) }) {
					want = append(want, a)
				}
			}
			p := []api.Principal{one("other", 0), one("ann", over...)}
			wantCheck(t, s.title, l, p, api.OK)
			wantReach(t, l, p, "ann", want...)
			checkBelow(t, l, p, "ann")
		}
	}
}

// leads tells whether a row of pairs leads from a to b, by the words of layer 1 alone; the pairs have no ring.
func leads(pairs [][2]int, a, b int) bool {
	if a == b {
		return true
	}
	for _, p := range pairs {
		if p[0] == a && leads(pairs, p[1], b) {
			return true
		}
	}
	return false
}

// checkBelow is promise 2.3.
func checkBelow(t *testing.T, l *level.Lattice, p []api.Principal, name string) {
	t.Helper()
	for b := range l.Size() {
		for a := range l.Size() {
			if l.Leq(a, b) && auth.Over(l, p, name, b) && !auth.Over(l, p, name, a) {
				t.Errorf("%v: %s has authority over %d, not over %d below it", p, name, b, a)
			}
		}
	}
}

func TestBelowOfWhateverPrincipals(t *testing.T) {
	r := rand.New(rand.NewSource(2))
	for range 2000 {
		s := shapes[r.Intn(len(shapes))]
		l := lattice(t, s.size, s.below...)
		p := crowd(r.Intn(2 * api.MaxPrincipals))
		for i := range p {
			for range r.Intn(4) {
				p[i].Over = append(p[i].Over, r.Intn(api.MaxLevels+4)-2)
			}
		}
		for i := range p {
			checkBelow(t, l, p, p[i].Name)
			reach := auth.Reach(l, p, p[i].Name)
			for a := range l.Size() {
				if slices.Contains(reach, a) != auth.Over(l, p, p[i].Name, a) {
					t.Errorf("%v: Reach and Over differ at %d", p[i], a)
				}
			}
			for j := 1; j < len(reach); j++ {
				if reach[j-1] >= reach[j] {
					t.Errorf("%v: Reach %v doesn't rise", p[i], reach)
				}
			}
		}
	}
}

// The rules of memory.
func TestArgumentsAreNotChanged(t *testing.T) {
	l := diamond(t)
	fresh := func() []api.Principal { return []api.Principal{one("bob", 2, 1, 9), one("ann", 0, 1, 2, 3)} }
	p := fresh()
	auth.Check(l, p)
	auth.Find(p, "ann")
	auth.Over(l, p, "ann", 0)
	reach := auth.Reach(l, p, "ann")
	for i := range reach {
		reach[i] = -1
	}
	if !reflect.DeepEqual(p, fresh()) {
		t.Error("principals were changed, or share memory with an answer")
	}
	wantReach(t, l, p, "ann", 0, 1, 2, 3)
}
