package within

// Tally tells a number of a list, from 0 on: add is told, thing by thing, the number so far (0 at first), and that of the list in the thing (0 of an empty one). It is false as soon as open is, which is asked of each list ahead of those in it, or add; and if a list stands in itself.
func Tally[T any](list []T, inner func(*T) []T, open func([]T) bool, add func(sum, in int) (int, bool)) (int, bool) {
	// The lists stand under nothing.
	under := struct{}{}
	lists, ok := inwards(list, under, func(thing *T, _ struct{}) ([]T, struct{}) { return inner(thing), under }, open)
	known := map[spot[T]]int{}
	for _, s := range lists {
		sum := 0
		for i := range s.list {
			if sum, ok = add(sum, known[spotOf(inner(&s.list[i]))]); !ok {
				return 0, false
			}
		}
		known[spotOf(s.list)] = sum
	}
	return known[spotOf(list)], ok
}

// Count is how many there are: a thing, those of the list in it, theirs, and so on; false, if there are more than most.
func Count[T any](thing T, inner func(*T) []T, most int) (int, bool) {
	met := 0
	// What was met is no more than there is, so that far too many are told early.
	open := func(list []T) bool {
		met += len(list)
		return met <= most
	}
	add := func(n, in int) (int, bool) { return n + 1 + in, in < most-n }
	return Tally([]T{thing}, inner, open, add)
}
