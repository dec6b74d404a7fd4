package head

import "lapidary/api"

// Where the parts of a header's word begin, the lowest bit first, and where the last one ends.
const (
	tagAt   = 0
	markAt  = 3
	shapeAt = 5
	endAt   = 64 // the shape has all bits that are left, so that none goes unasked
)

// tag is how no word ends that layer 1 knows.
const tag = 6

// header is a header under way: it is not known yet whether it may be.
type header struct {
	api.Head
}

func (h header) may() bool {
	return h.Shape >= 0 && h.Shape < api.MaxShapes && isMark(h.Mark)
}

func (h header) word() uint64 {
	return uint64(h.Shape)<<shapeAt | uint64(h.Mark)<<markAt | tag<<tagAt
}

// bits is an object's first word as it stands in an arena.
type bits uint64

func (b bits) part(from, end uint) uint64 {
	return uint64(b) << (endAt - end) >> (endAt - end + from)
}
