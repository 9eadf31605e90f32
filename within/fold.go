package within

// Fold is what work makes of a list that stands under something. Inner is the list in a thing, and what that list stands under; work is told a list, what it stands under, and a function that tells what was made of the list in a thing, by the thing's place. Each list that isn't empty is worked on once, but for each thing that it stands under. It is false, if a list stands in itself, under the same.
func Fold[T any, C comparable, B any](list []T, under C, inner func(thing *T, under C) ([]T, C), work func(list []T, under C, in func(i int) B) B) (B, bool) {
	lists, ok := inwards(list, under, inner, func([]T) bool { return true })
	if !ok {
		var none B
		return none, false
	}
	made := map[place[T, C]]B{}
	of := func(list []T, under C) B {
		if len(list) == 0 {
			return work(nil, under, nil)
		}
		return made[standing[T, C]{list, under}.place()]
	}
	for _, s := range lists {
		in := func(i int) B { return of(inner(&s.list[i], s.under)) }
		made[s.place()] = work(s.list, s.under, in)
	}
	return of(list, under), true
}
