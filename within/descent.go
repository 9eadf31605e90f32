package within

// standing is a list that isn't empty, and what it stands under.
type standing[T any, C comparable] struct {
	list  []T
	under C
}

// place is where a list stands, and under what: two lists of one place are one.
type place[T any, C comparable] struct {
	at    spot[T]
	under C
}

func (s standing[T, C]) place() place[T, C] { return place[T, C]{spotOf(s.list), s.under} }

// begun is a list, and whether those that are in it were put behind it.
type begun[T any, C comparable] struct {
	standing[T, C]
	opened bool
}

// How far a list is that was met.
const (
	opened = 1 + iota
	closed
)

// descent goes down to the lists that are in a list.
type descent[T any, C comparable] struct {
	inner func(*T, C) ([]T, C)
	open  func([]T) bool
	// met has each list that was met: opened, while it is gone on to those that are in it, and then closed.
	met map[place[T, C]]int
	// row has each list that was begun, and behind it those that are in it.
	row []begun[T, C]
	// out has the lists that are closed.
	out []standing[T, C]
}

// inwards are a list, and those in it, theirs, and so on, each one once, behind those that are in it. It is false as soon as open is, which is asked of each list ahead of those in it; and if a list stands in itself.
func inwards[T any, C comparable](list []T, under C, inner func(*T, C) ([]T, C), open func([]T) bool) ([]standing[T, C], bool) {
	d := descent[T, C]{inner: inner, open: open, met: map[place[T, C]]int{}}
	d.begin(list, under)
	for len(d.row) > 0 {
		if !d.step() {
			return nil, false
		}
	}
	return d.out, true
}

// begin puts a list behind the row, unless it is empty.
func (d *descent[T, C]) begin(list []T, under C) {
	if len(list) > 0 {
		d.row = append(d.row, begun[T, C]{standing: standing[T, C]{list, under}})
	}
}

// step goes on with the last list of the row.
func (d *descent[T, C]) step() bool {
	last := &d.row[len(d.row)-1]
	at := last.place()
	switch {
	case last.opened:
		d.met[at] = closed
		d.out = append(d.out, last.standing)
	case d.met[at] == opened:
		// It stands in itself.
		return false
	case d.met[at] != closed:
		d.met[at] = opened
		last.opened = true
		return d.enter(last.standing)
	}
	d.row = d.row[:len(d.row)-1]
	return true
}

// enter puts the lists that are in a list behind the row.
func (d *descent[T, C]) enter(s standing[T, C]) bool {
	if !d.open(s.list) {
		return false
	}
	for i := range s.list {
		d.begin(d.inner(&s.list[i], s.under))
	}
	return true
}
