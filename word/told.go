package word

import "lapidary/api"

// told is a word under way, beside what it was found to be.
type told struct {
	bits
	kind
	name  api.WordKind
	holds int64
}

// tell takes a word for the kind that would lay it just so; no two kinds lay the same one.
func tell(w uint64) told {
	b := bits(w)
	all := kinds()
	for n, k := range all {
		holds := k.value(b.plain())
		laid, errno := k.lay(holds)
		if errno == api.OK && laid == b.plain() && (k.seals || !b.sealed()) {
			return told{b, k, api.WordKind(n), holds}
		}
	}
	return told{bits: b, kind: all[api.WordBad]}
}
