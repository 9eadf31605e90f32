package within

// Kept has what was made of lists.
type Kept[T, B any] map[spot[T]]B

// Of is what work makes of a list; each one that isn't empty is worked on once, however often it is asked for. Work may ask for the lists in its own, so long as none stands in itself.
func (k Kept[T, B]) Of(list []T, work func([]T) B) B {
	if len(list) == 0 {
		return work(list)
	}
	at := spotOf(list)
	made, ok := k[at]
	if !ok {
		made = work(list)
		k[at] = made
	}
	return made
}
