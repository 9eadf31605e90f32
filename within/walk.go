package within

// stretch is a list that is being gone through, and what is left of it.
type stretch[T any] struct{ list, left []T }

// march goes from thing to thing.
type march[T any] struct {
	// row has the lists that are being gone through, each behind the one that it is in.
	row []stretch[T]
	// at has the place in the row of each of them.
	at map[spot[T]]int
}

// Walk asks see of each thing of a list, and, ahead of the next one, of those of the list in it, as long as see tells true: it is false as soon as see is. What stands in itself has no end, and is gone round and round; see isn't asked any more then, once a round is over and it was asked so often.
func Walk[T any](list []T, inner func(*T) []T, see func(*T) bool, often int) bool {
	m := march[T]{at: map[spot[T]]int{}}
	m.enter(list)
	for asked := 1; len(m.row) > 0; asked++ {
		x := m.next()
		if !see(x) {
			return false
		}
		if again := m.enter(inner(x)); again && asked >= often {
			return true
		}
		m.leave()
	}
	return true
}

// enter goes into a list, and tells whether it stands in itself.
func (m *march[T]) enter(list []T) bool {
	if len(list) == 0 {
		return false
	}
	at := spotOf(list)
	place, again := m.at[at]
	if again {
		// From here on all goes as it went from there on, without an end: what is behind it is never come to.
		m.drop(place)
	}
	m.at[at] = len(m.row)
	m.row = append(m.row, stretch[T]{list, list})
	return again
}

// next is the next thing of the last list of the row.
func (m *march[T]) next() *T {
	last := &m.row[len(m.row)-1]
	x := &last.left[0]
	last.left = last.left[1:]
	return x
}

// leave goes out of the lists at the end of the row of which nothing is left.
func (m *march[T]) leave() {
	for n := len(m.row); n > 0 && len(m.row[n-1].left) == 0; n-- {
		m.drop(n - 1)
	}
}

// drop takes the lists out of the row that stand at a place and behind it.
func (m *march[T]) drop(place int) {
	for _, s := range m.row[place:] {
		delete(m.at, spotOf(s.list))
	}
	m.row = m.row[:place]
}
