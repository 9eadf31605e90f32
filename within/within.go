// Package within goes through lists of things that have lists of such things in them, as values and nodes have. Things that may not be can share far more lists than could be gone through one by one, be deeper than calls go, or stand in themselves: so each list is gone through once, from a row, not by a call within a call.
package within

// spot is where a list stands: two lists of one spot are one.
type spot[T any] struct {
	first *T
	n     int
}

// spotOf is the spot of a list; all that are empty have the same one.
func spotOf[T any](list []T) spot[T] {
	if len(list) == 0 {
		return spot[T]{}
	}
	return spot[T]{&list[0], len(list)}
}

// pair is two lists of one length.
type pair[T any] struct{ a, b []T }

// Same tells whether two lists are as long, agree says so of each two things at one place, and the lists in these are the same.
func Same[T any](a, b []T, inner func(*T) []T, agree func(a, b *T) bool) bool {
	met := map[[2]spot[T]]struct{}{}
	row := []pair[T]{{a, b}}
	for len(row) > 0 {
		p := row[len(row)-1]
		row = row[:len(row)-1]
		if len(p.a) != len(p.b) {
			return false
		}
		if len(p.a) == 0 {
			continue
		}
		at := [2]spot[T]{spotOf(p.a), spotOf(p.b)}
		if _, ok := met[at]; ok {
			continue
		}
		met[at] = struct{}{}
		for i := range p.a {
			v, w := &p.a[i], &p.b[i]
			if !agree(v, w) {
				return false
			}
			if in := (pair[T]{inner(v), inner(w)}); len(in.a) > 0 || len(in.b) > 0 {
				row = append(row, in)
			}
		}
	}
	return true
}

// Turn is a list of what each thing of a list is turned into: turn is told the thing, and what the list in it is turned into (which isn't filled yet). What shared a list shares what that is turned into.
func Turn[A, B any](list []A, inner func(*A) []A, turn func(a *A, in []B) B) []B {
	if len(list) == 0 {
		return nil
	}
	made := map[spot[A]][]B{}
	var row [][]A
	place := func(list []A) []B {
		if len(list) == 0 {
			return nil
		}
		at := spotOf(list)
		to, ok := made[at]
		if !ok {
			to = make([]B, len(list))
			made[at] = to
			row = append(row, list)
		}
		return to
	}
	out := place(list)
	for len(row) > 0 {
		from := row[len(row)-1]
		row = row[:len(row)-1]
		to := made[spotOf(from)]
		for i := range from {
			to[i] = turn(&from[i], place(inner(&from[i])))
		}
	}
	return out
}
