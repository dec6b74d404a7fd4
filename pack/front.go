package pack

import "lapidary/api"

const (
	spaces    = 2
	wordsBase = 8192 // above MaxSpace, so that no number of words reaches into the next one
)

// front is a frontier under way.
type front struct{ api.Front }

func isSpace(space int) bool { return within(0, spaces-1, space) }

// may asks the bounds ahead of the sum, which then can't wrap round.
func (f *front) may() bool {
	return isSpace(f.Space) && within(0, api.MaxSpace, f.Low, f.High, f.Other) && f.room() >= 0
}

// room is taken off High, not added up: a claim of any size can be held against it.
func (f *front) room() int { return f.High - f.Low - f.Other }

// claimed points to how far a space is claimed.
func (f *front) claimed(space int) *int {
	if space == f.Space {
		return &f.Low
	}
	return &f.Other
}

func (f *front) claim(space, n int) int {
	end := f.claimed(space)
	at := *end
	*end += n
	return at
}

func (f *front) turn(high int) {
	f.Front = api.Front{Space: spaces - 1 - f.Space, Low: f.Other, High: high}
}
