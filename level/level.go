// Package level is layer 1: lattices of levels, made of a policy's table.
package level

import (
	"keyhole/api"
)

// relation tells of each two levels, by their places, whether the first one is below the second one.
type relation [api.MaxLevels][api.MaxLevels]bool

// choice is one level for each two.
type choice [api.MaxLevels][api.MaxLevels]int

// Lattice is levels that are right.
type Lattice struct {
	size        int
	names       [api.MaxLevels]string
	below       relation
	joins       choice
	meets       choice
	bottom, top int
}

// Name tells whether a text is a name.
func Name(s string) bool {
	if len(s) < 1 || len(s) > api.MaxName || !letter(s[0]) {
		return false
	}
	for i := 1; i < len(s); i++ {
		if !letter(s[i]) && !digit(s[i]) {
			return false
		}
	}
	return true
}

func letter(c byte) bool { return c >= 'a' && c <= 'z' }

func digit(c byte) bool { return c >= '0' && c <= '9' }

// New is a policy's lattice.
func New(p api.Policy) (*Lattice, api.Errno) {
	if !namesRight(p.Names) {
		return nil, api.ErrName
	}
	size := len(p.Names)
	if !pairsRight(p.Below, size) {
		return nil, api.ErrRange
	}
	below := closed(paired(p.Below, size))
	above := turned(below)
	if shared(below, above) != paired(nil, size) {
		return nil, api.ErrOrder
	}
	joins, joined := leasts(below, size)
	// A meet is a join with the levels turned about.
	meets, met := leasts(above, size)
	if !joined || !met {
		return nil, api.ErrOrder
	}
	l := &Lattice{size: size, below: below, joins: joins, meets: meets}
	// The names are copied, so that the lattice keeps nothing of the policy's own lists.
	copy(l.names[:], p.Names)
	for a := range size {
		l.top = joins[l.top][a]
		l.bottom = meets[l.bottom][a]
	}
	return l, api.OK
}

func namesRight(names []string) bool {
	if len(names) < 1 || len(names) > api.MaxLevels {
		return false
	}
	for i, s := range names {
		if !Name(s) {
			return false
		}
		for _, earlier := range names[:i] {
			if earlier == s {
				return false
			}
		}
	}
	return true
}

func pairsRight(pairs [][2]int, size int) bool {
	if len(pairs) > api.MaxPairs {
		return false
	}
	for _, pair := range pairs {
		if !within(pair[0], size) || !within(pair[1], size) {
			return false
		}
	}
	return true
}

func within(a, size int) bool { return a >= 0 && a < size }

// paired has the pairs themselves, and each level below itself.
func paired(pairs [][2]int, size int) relation {
	var r relation
	for a := range size {
		r[a][a] = true
	}
	for _, pair := range pairs {
		r[pair[0]][pair[1]] = true
	}
	return r
}

// closed goes on till another round adds nothing: then every row of pairs is in it, however long.
func closed(r relation) relation {
	for {
		next := doubled(r)
		if next == r {
			return r
		}
		r = next
	}
}

// doubled has what one or two pairs of a relation lead to; none is lost, since each level is below itself.
func doubled(r relation) relation {
	var next relation
	for a := range r {
		for b := range r {
			for c := range r {
				if r[a][b] && r[b][c] {
					next[a][c] = true
				}
			}
		}
	}
	return next
}

func turned(r relation) relation {
	var t relation
	for a := range r {
		for b := range r {
			t[b][a] = r[a][b]
		}
	}
	return t
}

func shared(r, s relation) relation {
	var both relation
	for a := range r {
		for b := range r {
			both[a][b] = r[a][b] && s[a][b]
		}
	}
	return both
}

// leasts is the join of each two levels; false, if two have none.
func leasts(r relation, size int) (choice, bool) {
	var joins choice
	for a := range size {
		for b := range size {
			c, ok := least(r, size, a, b)
			if !ok {
				return choice{}, false
			}
			joins[a][b] = c
		}
	}
	return joins, true
}

func least(r relation, size, a, b int) (int, bool) {
	for c := range size {
		if r[a][c] && r[b][c] && belowBounds(r, size, a, b, c) {
			return c, true
		}
	}
	return 0, false
}

// belowBounds tells whether c is below each level that is above both a and b.
func belowBounds(r relation, size, a, b, c int) bool {
	for d := range size {
		if r[a][d] && r[b][d] && !r[c][d] {
			return false
		}
	}
	return true
}

// Size is how many levels there are.
func (l *Lattice) Size() int {
	if l == nil {
		return 0
	}
	return l.size
}

// Is tells whether it is a level.
func (l *Lattice) Is(a int) bool {
	return within(a, l.Size())
}

// Leq tells whether a level is below another one.
func (l *Lattice) Leq(a, b int) bool {
	return l.Is(a) && l.Is(b) && l.below[a][b]
}

// Join is the least level above two.
func (l *Lattice) Join(a, b int) int {
	if !l.Is(a) || !l.Is(b) {
		return l.Top()
	}
	return l.joins[a][b]
}

// Meet is the greatest level below two.
func (l *Lattice) Meet(a, b int) int {
	if !l.Is(a) || !l.Is(b) {
		return l.Bottom()
	}
	return l.meets[a][b]
}

// Bottom is the level below all.
func (l *Lattice) Bottom() int {
	if l == nil {
		return 0
	}
	return l.bottom
}

// Top is the level above all.
func (l *Lattice) Top() int {
	if l == nil {
		return 0
	}
	return l.top
}

// Text is a level's name.
func (l *Lattice) Text(a int) string {
	if !l.Is(a) {
		return ""
	}
	return l.names[a]
}

// Find is the level with a name.
func (l *Lattice) Find(name string) (int, bool) {
	for a := range l.Size() {
		if l.names[a] == name {
			return a, true
		}
	}
	return 0, false
}
