package layout

import (
	"lapidary/api"
	"lapidary/shape"
)

const spaces = 2

// plan is a plan under way. Its methods but may trust that it may be.
type plan struct{ api.Plan }

func (p plan) may() bool {
	isThreads, isSpace := within(1, api.MaxThreads), within(api.MinSpace, api.MaxSpace)
	return isThreads(p.Threads) && isSpace(p.Space) && shape.Check(p.Shapes...) == api.OK
}

// extent is how many parts there are of a kind, and how many words each has.
type extent func() (parts, words int)

// extents stand in the order in which the kinds' words do in an arena.
func (p plan) extents() [kinds]extent {
	return [...]extent{
		api.PartNone:    p.none,
		api.PartRequest: p.one,
		api.PartFront:   p.one,
		api.PartTrigger: p.one,
		api.PartAck:     p.eachThread,
		api.PartList:    p.eachThread,
		api.PartSpace:   p.eachSpace,
	}
}

func (p plan) none() (parts, words int) { return 0, 0 }

func (p plan) one() (parts, words int) { return 1, 1 }

func (p plan) eachThread() (parts, words int) { return p.Threads, 1 }

func (p plan) eachSpace() (parts, words int) { return spaces, p.Space }

// base is the first word of a kind, and so, of the kind that is one past the last, how many words there are.
func (p plan) base(kind api.PartKind) int {
	at := 0
	extents := p.extents()
	for _, tell := range extents[:kind] {
		parts, words := tell()
		at += parts * words
	}
	return at
}

func (p plan) size() int { return p.base(kinds) }

// part is of a word that is there.
func (p plan) part(at int) api.Part {
	kind := api.PartSpace
	for at < p.base(kind) {
		kind--
	}
	_, words := p.extents()[kind]()
	behind := at - p.base(kind)
	return api.Part{Kind: kind, Number: behind / words, At: behind % words}
}

// has is asked of a part that may be.
func (p plan) has(x api.Part) bool {
	parts, words := p.extents()[x.Kind]()
	isNumber, isAt := within(0, parts-1), within(0, words-1)
	return isNumber(x.Number) && isAt(x.At)
}

// at is of a part that the plan has.
func (p plan) at(x api.Part) int {
	_, words := p.extents()[x.Kind]()
	return p.base(x.Kind) + x.Number*words + x.At
}
