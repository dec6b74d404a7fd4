package graph

import (
	"slices"
	"strings"

	"lapidary/api"
)

// plan is a graph's own. Its fields have names of their own: those of api.Plan, promoted, could be changed by all who have the graph.
type plan struct {
	threads, space int
	shapes         []api.Shape
}

// planOf keeps nothing of what is handed in.
func planOf(p api.Plan) plan {
	q := plan{threads: p.Threads, space: p.Space}
	for _, s := range p.Shapes {
		q.shapes = append(q.shapes, api.Shape(strings.Clone(string(s))))
	}
	return q
}

func (p plan) same(q plan) bool {
	return p.threads == q.threads && p.space == q.space && slices.Equal(p.shapes, q.shapes)
}
