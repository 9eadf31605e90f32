package jval

import (
	"slices"

	"keyhole/api"
	"keyhole/kinds"
	"keyhole/within"
)

// itemsOf is the list that is in a value.
func itemsOf(v *api.Value) []api.Value { return v.Items }

// Is tells whether a value may be.
func Is(v api.Value) bool {
	if !isRight(&v) {
		return false
	}
	_, ok := within.Tally(v.Items, itemsOf, areRight, deeper)
	return ok
}

// isRight tells whether a value may be, whatever its items are.
func isRight(v *api.Value) bool {
	return kinds.Right(v.Kind, v.Num, v.Str, v.Keys, len(v.Items))
}

// areRight tells whether values may be items, whatever theirs are.
func areRight(items []api.Value) bool {
	for i := range len(items) {
		if items[i].Kind == api.Bad || !isRight(&items[i]) {
			return false
		}
	}
	return true
}

// deeper is how deep a list is, with one more value whose own list is so deep; false, if that is too deep.
func deeper(deep, in int) (int, bool) {
	deep = max(deep, in+1)
	return deep, deep <= api.MaxDepth
}

// Same tells whether two values are the same.
func Same(a, b api.Value) bool {
	return within.Same([]api.Value{a}, []api.Value{b}, itemsOf, agree)
}

// agree tells whether two values are the same, whatever their items are.
func agree(a, b *api.Value) bool {
	return a.Kind == b.Kind && a.Num == b.Num && a.Str == b.Str && slices.Equal(a.Keys, b.Keys)
}

// Size is how many values there are, at most so many.
func Size(v api.Value, most int) int {
	n, ok := within.Count(v, itemsOf, most)
	if !ok {
		return max(most, 0)
	}
	return n
}
