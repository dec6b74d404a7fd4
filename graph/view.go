package graph

import (
	"iter"
	"slices"

	"lapidary/api"
	"lapidary/shape"
)

// numbers are those of objects, as they are met, from 1 on; nothing has the number 0.
type numbers map[*object]int

// met goes over what can be reached, each object once, by its number.
func (g *Graph) met() iter.Seq2[int, *object] {
	return func(yield func(int, *object) bool) {
		known := numbers{nil: 0} // as if it had been met: nothing is no node
		var held []*object
		for _, own := range g.roots {
			held = append(held, own[:]...)
		}
		for len(held) > 0 {
			o := held[0]
			held = held[1:]
			if _, ok := known[o]; ok {
				continue
			}
			known[o] = len(known)
			if !yield(known[o], o) {
				return
			}
			// What a scalar field holds is nothing, so that kinds need not be asked.
			for _, f := range o.fields {
				held = append(held, f.held)
			}
		}
	}
}

func (g *Graph) view() api.View {
	var v api.View
	known := numbers{}
	for number, o := range g.met() {
		known[o] = number
	}
	for _, own := range g.roots {
		v.Roots = append(v.Roots, known.of(own))
	}
	for _, o := range g.met() {
		v.Nodes = append(v.Nodes, api.Node{Shape: o.shape, Fields: g.told(o, known)})
	}
	return v
}

func (n numbers) of(own slots) []int {
	var l []int
	for _, o := range own {
		l = append(l, n[o])
	}
	return l
}

// told is what an object's fields hold, as a view has it.
func (g *Graph) told(o *object, known numbers) []int64 {
	var l []int64
	for at, kind := range shape.All(g.shapes[o.shape]) {
		f := o.fields[at]
		if kind == api.FieldPointer {
			l = append(l, int64(known[f.held]))
		} else {
			l = append(l, f.scalar)
		}
	}
	return l
}

func sameNode(a, b api.Node) bool { return a.Shape == b.Shape && slices.Equal(a.Fields, b.Fields) }
