package order_test

import (
	"math/big"
	"slices"
	"strings"

	"keyhole/api"
)

// mark is one step of a value that is written as a row; rows go as a dictionary's words do.
type mark struct {
	place  int
	size   *big.Rat
	text   string
	looked bool
}

// Between the items, or keys, of one thing.
const (
	noMore = iota
	oneMore
)

// row is the marks of a value, cut where more values stand in it than may be looked at.
type row struct {
	marks []mark
	looks int
}

func rowOf(v api.Value) []mark {
	var r row
	r.add(v)
	return r.marks
}

func (r *row) full() bool { return r.looks > api.MaxWalk }

func (r *row) add(v api.Value) {
	if r.full() {
		return
	}
	r.looks++
	m := mark{place: v.Kind, looked: true}
	switch v.Kind {
	case api.Null, api.False, api.True, api.Array, api.Object:
	case api.Number:
		m.size = sizeOf(v.Num)
	case api.String, api.Bad:
		m.text = v.Str
	default:
		m.place = 100
	}
	r.marks = append(r.marks, m)
	if v.Kind == api.Object {
		for _, key := range v.Keys {
			r.marks = append(r.marks, mark{place: oneMore}, mark{text: key})
		}
		r.marks = append(r.marks, mark{place: noMore})
	}
	if v.Kind == api.Object || v.Kind == api.Array {
		for _, item := range v.Items {
			if r.full() {
				return
			}
			r.marks = append(r.marks, mark{place: oneMore})
			r.add(item)
		}
		r.marks = append(r.marks, mark{place: noMore})
	}
}

// sizeOf is a number by the chapters' words; 0, if it may not be.
func sizeOf(n api.Num) *big.Rat {
	if n.Scale < 0 || n.Scale > api.MaxScale || n.Coef <= -api.MaxCoef || n.Coef >= api.MaxCoef || n.Scale > 0 && n.Coef%10 == 0 {
		return new(big.Rat)
	}
	ten := new(big.Int).Exp(big.NewInt(10), big.NewInt(int64(n.Scale)), nil)
	return new(big.Rat).SetFrac(big.NewInt(n.Coef), ten)
}

// against is which of two marks of like kind is ahead.
func (m mark) against(n mark) int {
	if m.place != n.place {
		return max(-1, min(m.place-n.place, 1))
	}
	if m.size != nil {
		return m.size.Cmp(n.size)
	}
	return strings.Compare(m.text, n.text)
}

// rowsCompared is what Compare ought to answer of the values that two rows are of, and how many pairs it takes, or one more than may be.
func rowsCompared(a, b []mark) (c int, ok bool, looks int) {
	for i := range min(len(a), len(b)) {
		if a[i].looked {
			looks++
		}
		if looks > api.MaxWalk {
			return 0, false, looks
		}
		if c := a[i].against(b[i]); c != 0 {
			return c, true, looks
		}
	}
	return 0, true, looks
}

// sortedByModel is what Sort ought to answer, as places in the list: each value goes ahead of the first one that it is ahead of.
func sortedByModel(l []api.Value) ([]int, bool) {
	var rows [][]mark
	for _, v := range l {
		rows = append(rows, rowOf(v))
	}
	for i := range rows {
		for j := range i {
			if _, ok, _ := rowsCompared(rows[i], rows[j]); !ok {
				return nil, false
			}
		}
	}
	var out []int
	for i := range rows {
		at := slices.IndexFunc(out, func(j int) bool {
			c, _, _ := rowsCompared(rows[i], rows[j])
			return c < 0
		})
		if at < 0 {
			at = len(out)
		}
		out = slices.Insert(out, at, i)
	}
	return out, true
}
