package shape

import (
	"cmp"

	"lapidary/api"
)

const headWords = 2 // an object's header and its link

// greatest asks of items that come to nought or more.
func greatest[T any, N cmp.Ordered](items []T, tell func(T) N) N {
	var most N
	for _, item := range items {
		most = max(most, tell(item))
	}
	return most
}

// size counts what All goes over, so that the two can't differ; of several shapes it is the greatest.
func size(l ...api.Shape) int {
	return greatest(l, func(s api.Shape) int {
		words := headWords
		for range All(s) {
			words++
		}
		return words
	})
}
