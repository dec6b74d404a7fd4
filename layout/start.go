package layout

import (
	"lapidary/api"
	"lapidary/head"
	"lapidary/pack"
	"lapidary/shape"
	"lapidary/word"
)

// firstWords are the kinds of what fields hold at the start; the Value is 0 of each.
var firstWords = [...]api.WordKind{
	api.FieldPointer: api.WordNull,
	api.FieldScalar:  api.WordScalar,
}

// start asks for no errors of the layers below: what it lays is within their bounds, as the plan may be.
func (p plan) start() []uint64 {
	l := make([]uint64, p.size())
	object := p.firstObject()
	l[api.AtRequest], _ = pack.Request(api.Request{Epoch: 0, Phase: api.PhasePlain})
	l[api.AtFront], _ = pack.Front(api.Front{Space: 0, Low: len(object), High: p.Space, Other: 0})
	copy(l[p.base(api.PartSpace):], object)
	return l
}

func (p plan) firstObject() []uint64 {
	const link = 0
	header, _ := head.Make(api.Head{Shape: 0, Mark: api.MarkWhite})
	l := []uint64{header, link}
	for _, kind := range shape.All(p.Shapes[0]) {
		w, _ := word.Make(api.Word{Kind: firstWords[kind]})
		l = append(l, w)
	}
	return l
}
