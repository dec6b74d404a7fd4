package graph

import (
	"lapidary/api"
	"lapidary/shape"
)

// slots are those of a thread: what each one holds, nil for nothing.
type slots [api.Slots]*object

// object is told from others by where it is pointed to alone.
type object struct {
	shape  int
	fields []field
}

// field has but one of the two, as its kind is: the other one stays as it is at first.
type field struct {
	held   *object
	scalar int64
}

// fresh is a new object, which nothing holds yet. Its shape is one that there is.
func (g *Graph) fresh(number int) *object {
	g.made++
	o := &object{shape: number}
	for range shape.All(g.shapes[number]) {
		o.fields = append(o.fields, field{})
	}
	return o
}

// twin is another graph with objects of its own; those that can't be reached are not among them.
func (g *Graph) twin() *Graph {
	twins := map[*object]*object{}
	for _, o := range g.met() {
		twins[o] = &object{shape: o.shape}
	}
	for o, twin := range twins {
		for _, f := range o.fields {
			twin.fields = append(twin.fields, field{held: twins[f.held], scalar: f.scalar})
		}
	}
	h := &Graph{plan: g.plan, roots: make([]slots, g.threads), made: g.made}
	for thread, own := range g.roots {
		for slot, o := range own {
			h.roots[thread][slot] = twins[o]
		}
	}
	return h
}
