package jval

import (
	"slices"

	"keyhole/api"
	"keyhole/num"
	"keyhole/utf"
)

// spot is where a list of items stands. Each is gone through once: values that share items would take too long otherwise, and those that hold themselves would never end.
type spot struct {
	first *api.Value
	n     int
}

// spotOf is the spot of a list that isn't empty.
func spotOf(items []api.Value) spot { return spot{&items[0], len(items)} }

// Is tells whether a value may be.
func Is(v api.Value) bool {
	_, ok := height(v, 0, map[spot]int{})
	return ok
}

// height is how deep what is nested in a value, which is so deep itself, is in it at most; false, if the value may not be. Those of lists that were gone through are known.
func height(v api.Value, deep int, known map[spot]int) (int, bool) {
	if deep > api.MaxDepth || !isRight(v) {
		return 0, false
	}
	if len(v.Items) == 0 {
		return 0, true
	}
	at := spotOf(v.Items)
	if h, ok := known[at]; ok {
		return h, deep+h <= api.MaxDepth
	}
	most := 0
	for i := range len(v.Items) {
		if v.Items[i].Kind == api.Bad {
			return 0, false
		}
		h, ok := height(v.Items[i], deep+1, known)
		if !ok {
			return 0, false
		}
		most = max(most, h+1)
	}
	known[at] = most
	return most, true
}

// isRight tells whether a value may be, whatever its items are. What its kind has is taken away, since of all else nothing may be left.
func isRight(v api.Value) bool {
	right := true
	switch v.Kind {
	case api.Null, api.False, api.True:
	case api.Number:
		right = num.Is(v.Num)
		v.Num = api.Num{}
	case api.String, api.Bad:
		right = utf.Valid(v.Str)
		v.Str = ""
	case api.Array:
		v.Items = nil
	case api.Object:
		right = isObject(v) && areKeys(v.Keys)
		v.Items, v.Keys = nil, nil
	default:
		return false
	}
	return right && v.Num == api.Num{} && v.Str == "" && len(v.Items) == 0 && len(v.Keys) == 0
}

// areKeys tells whether all are texts, and rise.
func areKeys(keys []string) bool {
	for i, k := range keys {
		if !utf.Valid(k) || i > 0 && k <= keys[i-1] {
			return false
		}
	}
	return true
}

// pair is two lists of one length.
type pair struct{ a, b []api.Value }

// Same tells whether two values are the same.
func Same(a, b api.Value) bool {
	met := map[[2]spot]struct{}{}
	// A row, not a call within a call, since values that may not be can be deeper than calls go.
	row := []pair{{[]api.Value{a}, []api.Value{b}}}
	for len(row) > 0 {
		p := row[len(row)-1]
		row = row[:len(row)-1]
		at := [2]spot{spotOf(p.a), spotOf(p.b)}
		if _, ok := met[at]; ok {
			continue
		}
		met[at] = struct{}{}
		for i := range len(p.a) {
			v, w := p.a[i], p.b[i]
			if !agree(v, w) {
				return false
			}
			if len(v.Items) > 0 {
				row = append(row, pair{v.Items, w.Items})
			}
		}
	}
	return true
}

// agree tells whether two values are the same, whatever their items are, but for how many.
func agree(a, b api.Value) bool {
	return a.Kind == b.Kind && a.Num == b.Num && a.Str == b.Str && len(a.Items) == len(b.Items) && slices.Equal(a.Keys, b.Keys)
}

// count is lists whose values are being counted, at most so many.
type count struct {
	most int
	// sizes has of each list that was met how many values it has, or unfinished.
	sizes map[spot]int
	// row has each list that was begun, and behind it those that are in it.
	row []begun
	met int
}

// begun is a list, and whether those that are in it were put behind it.
type begun struct {
	items  []api.Value
	opened bool
}

// unfinished stands for the size of a list, which is never 0, till it is known.
const unfinished = 0

// Size is how many values there are, at most so many.
func Size(v api.Value, most int) int {
	if most < 1 {
		return 0
	}
	whole := []api.Value{v}
	c := count{most: most, sizes: map[spot]int{}, row: []begun{{items: whole}}}
	for len(c.row) > 0 {
		if !c.step() {
			return most
		}
	}
	return c.sizes[spotOf(whole)]
}

// step goes on with the last list of the row; false, if there are as many values as are counted at most.
func (c *count) step() bool {
	last := &c.row[len(c.row)-1]
	at := spotOf(last.items)
	size, seen := c.sizes[at]
	switch {
	case last.opened:
		c.sizes[at] = c.total(last.items)
	case seen && size == unfinished:
		// It stands in itself, so that there is no end of values.
		return false
	case !seen:
		c.sizes[at] = unfinished
		last.opened = true
		return c.open(last.items)
	}
	c.row = c.row[:len(c.row)-1]
	return true
}

// open puts the lists that are in a list behind it; false, if so many values were met that no more are counted.
func (c *count) open(items []api.Value) bool {
	c.met += len(items)
	if c.met >= c.most {
		return false
	}
	for i := range len(items) {
		if inner := items[i].Items; len(inner) > 0 {
			c.row = append(c.row, begun{items: inner})
		}
	}
	return true
}

// total is how many values a list has, at most so many, where the sizes of those in it are known.
func (c *count) total(items []api.Value) int {
	n := len(items)
	for i := range len(items) {
		if inner := items[i].Items; len(inner) > 0 {
			n += min(c.sizes[spotOf(inner)], c.most-n)
		}
	}
	return n
}
