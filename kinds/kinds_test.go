package kinds_test

import (
	"testing"

	"keyhole/api"
	"keyhole/kinds"
)

// what is all that something may have beside its kind.
type what struct {
	n     api.Num
	s     string
	keys  []string
	items int
}

// all are things of which each kind has some.
func all() []what {
	var out []what
	for _, n := range []api.Num{{}, {Coef: 1}, {Coef: 15, Scale: 1}, {Coef: 10, Scale: 1}, {Scale: 1}} {
		for _, s := range []string{"", "a", "\xff"} {
			for _, keys := range [][]string{nil, {}, {""}, {"a"}, {"\xff"}, {"a", "b"}, {"b", "a"}, {"a", "a"}} {
				for items := range 4 {
					out = append(out, what{n, s, keys, items})
				}
			}
		}
	}
	return out
}

// right says by the document's words whether a kind has that.
func right(kind int, w what) bool {
	noNumber, noText, noItems := w.n == api.Num{}, w.s == "", len(w.keys) == 0 && w.items == 0
	switch kind {
	case api.Null, api.False, api.True:
		return noNumber && noText && noItems
	case api.Number:
		isNumber := noNumber || w.n == api.Num{Coef: 1} || w.n == api.Num{Coef: 15, Scale: 1}
		return isNumber && noText && noItems
	case api.String, api.Bad:
		return noNumber && w.s != "\xff" && noItems
	case api.Array:
		return noNumber && noText && len(w.keys) == 0
	case api.Object:
		rise := len(w.keys) == 0 || len(w.keys) == 1 && w.keys[0] != "\xff" || len(w.keys) == 2 && w.keys[0] < w.keys[1]
		return noNumber && noText && rise && len(w.keys) == w.items
	}
	return false
}

func TestRight(t *testing.T) {
	for kind := -1; kind <= 10; kind++ {
		for _, w := range all() {
			if got := kinds.Right(kind, w.n, w.s, w.keys, w.items); got != right(kind, w) {
				t.Errorf("Right(%d, %v, %+q, %+q, %d) is %v", kind, w.n, w.s, w.keys, w.items, got)
			}
		}
	}
}
