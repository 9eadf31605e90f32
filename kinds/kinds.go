// Package kinds tells what each kind has, of values and of nodes alike.
package kinds

import (
	"keyhole/api"
	"keyhole/num"
	"keyhole/utf"
)

// Right tells whether something of a kind has what it may have, whatever the items are, of which there are so many. What its kind has is taken away, since of all else nothing may be left.
func Right(kind int, n api.Num, s string, keys []string, items int) bool {
	right := true
	switch kind {
	case api.Null, api.False, api.True:
	case api.Number:
		right = num.Is(n)
		n = api.Num{}
	case api.String, api.Bad:
		right = utf.Valid(s)
		s = ""
	case api.Array:
		items = 0
	case api.Object:
		right = len(keys) == items && areKeys(keys)
		items, keys = 0, nil
	default:
		return false
	}
	return right && n == api.Num{} && s == "" && len(keys) == 0 && items == 0
}

// areKeys tells whether all are texts, and rise.
func areKeys(keys []string) bool {
	for i, k := range keys {
		if !utf.Valid(k) || i > 0 && k <= keys[i-1] {
			return false
		}
	}
	return true
}
