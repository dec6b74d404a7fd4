package arena

import (
	"iter"

	"lapidary/api"
)

// words is what an arena is made of. Its accesses trust that they were asked for and may be.
type words []uint64

func (l words) has(at int) bool { return at >= 0 && at < len(l) }

// all reads each word not before it tells it: it may have been stored meanwhile.
func (l words) all() iter.Seq2[int, uint64] {
	return func(yield func(int, uint64) bool) {
		for at := range len(l) {
			if !yield(at, l[at]) {
				return
			}
		}
	}
}

func (l words) do(x api.Access) uint64 {
	kinds := [...]func(api.Access) uint64{
		api.AccNone:  l.none,
		api.AccLoad:  l.load,
		api.AccStore: l.store,
		api.AccCas:   l.swap,
	}
	return kinds[x.Kind](x)
}

func (l words) none(api.Access) uint64 { return 0 }

func (l words) load(x api.Access) uint64 { return l[x.At] }

func (l words) store(x api.Access) uint64 {
	l[x.At] = x.New
	return 0
}

func (l words) swap(x api.Access) uint64 {
	stood := l[x.At]
	if stood == x.Old {
		l[x.At] = x.New
	}
	return stood
}
