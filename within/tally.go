package within

// begun is a list, and whether those that are in it were put behind it.
type begun[T any] struct {
	list   []T
	opened bool
}

// unknown stands for a list's number while those of the lists in it are looked for.
const unknown = -1

// tally has lists whose numbers are looked for.
type tally[T any] struct {
	inner func(*T) []T
	open  func([]T) bool
	add   func(sum, in int) (int, bool)
	// known has the number of each list that was met, or unknown.
	known map[spot[T]]int
	// row has each list that was begun, and behind it those that are in it.
	row []begun[T]
}

// Tally tells a number of a list, from 0 on: add is told, thing by thing, the number so far (0 at first), and that of the list in the thing (0 of an empty one). It is false as soon as add is, or open, which is asked of each list ahead of those in it; and if a list stands in itself.
func Tally[T any](list []T, inner func(*T) []T, open func([]T) bool, add func(sum, in int) (int, bool)) (int, bool) {
	if len(list) == 0 {
		return 0, true
	}
	t := tally[T]{inner, open, add, map[spot[T]]int{}, []begun[T]{{list: list}}}
	for len(t.row) > 0 {
		if !t.step() {
			return 0, false
		}
	}
	return t.known[spotOf(list)], true
}

// step goes on with the last list of the row.
func (t *tally[T]) step() bool {
	last := &t.row[len(t.row)-1]
	at := spotOf(last.list)
	number, met := t.known[at]
	switch {
	case last.opened:
		sum, ok := t.sum(last.list)
		if !ok {
			return false
		}
		t.known[at] = sum
	case !met:
		t.known[at] = unknown
		last.opened = true
		return t.begin(last.list)
	case number == unknown:
		// It stands in itself.
		return false
	}
	t.row = t.row[:len(t.row)-1]
	return true
}

// begin puts the lists that are in a list behind it.
func (t *tally[T]) begin(list []T) bool {
	if !t.open(list) {
		return false
	}
	for i := range list {
		if in := t.inner(&list[i]); len(in) > 0 {
			t.row = append(t.row, begun[T]{list: in})
		}
	}
	return true
}

// sum is the number of a list, where those of the lists in it are known.
func (t *tally[T]) sum(list []T) (int, bool) {
	sum, ok := 0, true
	for i := range list {
		number := 0
		if in := t.inner(&list[i]); len(in) > 0 {
			number = t.known[spotOf(in)]
		}
		if sum, ok = t.add(sum, number); !ok {
			return 0, false
		}
	}
	return sum, true
}

// Count is how many there are: a thing, those of the list in it, theirs, and so on; false, if there are more than most.
func Count[T any](thing T, inner func(*T) []T, most int) (int, bool) {
	met := 0
	// What was met is no more than there is, so that far too many are told early.
	open := func(list []T) bool {
		met += len(list)
		return met <= most
	}
	add := func(n, in int) (int, bool) { return n + 1 + in, in < most-n }
	return Tally([]T{thing}, inner, open, add)
}
