package arena

import "iter"

// unlike tells where two lists of one length differ, at most so many places: who asks whether there is one is spared the rest.
func unlike[T comparable](l iter.Seq2[int, T], m []T, most int) []int {
	var places []int
items:
	for at, item := range l {
		switch {
		case len(places) == most:
			break items
		case item != m[at]:
			places = append(places, at)
		}
	}
	return places
}
