package graph

import (
	"lapidary/api"
	"lapidary/op"
	"lapidary/shape"
)

// deed is an operation under way, which may be refused still.
type deed struct {
	api.Op
	*Graph
	own *slots // the thread's
}

// deeds are made here, not kept: a map may not stand at package level.
func deeds() map[api.OpKind]func(deed) api.Out {
	return map[api.OpKind]func(deed) api.Out{
		api.OpAlloc:   deed.alloc,
		api.OpGet:     deed.get,
		api.OpPut:     deed.put,
		api.OpCas:     deed.cas,
		api.OpGetInt:  deed.getInt,
		api.OpPutInt:  deed.putInt,
		api.OpCasInt:  deed.casInt,
		api.OpEq:      deed.eq,
		api.OpMove:    deed.move,
		api.OpDrop:    deed.drop,
		api.OpCollect: deed.collect,
	}
}

func (d deed) do() api.Out {
	if errno := op.Check(d.shapes, d.Op); errno != api.OK {
		giveUp(errno)
	}
	return deeds()[d.Kind](d)
}

// field is the one that the operation is of. It is asked for ahead of all that the operation changes.
func (d deed) field() *field {
	o := d.own[d.A]
	if o == nil {
		giveUp(api.ErrNull)
	}
	kind, _ := op.Field(d.Op)
	if errno := shape.Is(d.shapes, o.shape, d.Field, kind); errno != api.OK {
		giveUp(errno)
	}
	return &o.fields[d.Field]
}

func (d deed) alloc() api.Out {
	d.own[d.A] = d.fresh(d.Shape)
	return api.Out{}
}

func (d deed) get() api.Out {
	held := d.field().held
	d.own[d.B] = held
	return api.Out{Is: held != nil}
}

func (d deed) put() api.Out {
	d.field().held = d.own[d.B]
	return api.Out{}
}

func (d deed) cas() api.Out {
	f := d.field()
	return swap(&f.held, d.own[d.B], d.own[d.C])
}

func (d deed) getInt() api.Out { return api.Out{Value: d.field().scalar} }

func (d deed) putInt() api.Out {
	d.field().scalar = d.X
	return api.Out{}
}

func (d deed) casInt() api.Out {
	f := d.field()
	return swap(&f.scalar, d.X, d.Y)
}

func (d deed) eq() api.Out { return api.Out{Is: d.own[d.A] == d.own[d.B]} }

func (d deed) move() api.Out {
	d.own[d.A] = d.own[d.B]
	return api.Out{}
}

func (d deed) drop() api.Out {
	d.own[d.A] = nil
	return api.Out{}
}

func (d deed) collect() api.Out { return api.Out{} }

func swap[T comparable](at *T, old, now T) api.Out {
	if *at != old {
		return api.Out{}
	}
	*at = now
	return api.Out{Is: true}
}
