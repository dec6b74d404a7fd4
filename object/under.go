package object

import (
	"iter"

	"lapidary/api"
	"lapidary/arena"
	"lapidary/head"
	"lapidary/layout"
)

// Where an object's parts stand, behind its address; the header stands at it.
const (
	linkAt   = 1
	fieldsAt = 2
)

// object is an object under way: it is not known yet whether one stands there.
type object struct {
	api.Plan
	load func(at int) uint64
	at   int // its address
	end  int // the first word behind its space
}

// open asks what every call asks first. The object has no address yet.
func open(a *arena.Arena, p api.Plan) object {
	if a.Len() == 0 {
		giveUp(api.ErrNil)
	}
	if n, errno := layout.Size(p); errno != api.OK || n != a.Len() {
		giveUp(api.ErrArg)
	}
	return object{Plan: p, load: func(at int) uint64 {
		// No error is asked for: what is loaded is of a space, and so of the arena.
		w, _ := a.Load(at)
		return w
	}}
}

func (o object) to(at int) object {
	part, errno := layout.Part(o.Plan, at)
	if errno != api.OK || part.Kind != api.PartSpace {
		giveUp(api.ErrRange)
	}
	o.at, o.end = at, at-part.At+o.Space
	return o
}

// words is how many words the object has that stands there, and 0 where none stands.
func (o object) words() int {
	n, errno := head.Size(o.load(o.at), o.Shapes)
	if errno != api.OK || !o.fits(n) {
		return 0
	}
	return n
}

func (o object) fits(words int) bool { return words <= o.end-o.at }

// mustStand is how many words the object has.
func (o object) mustStand() int {
	n := o.words()
	if n == 0 {
		giveUp(api.ErrHead)
	}
	return n
}

func (o object) read() api.Object {
	n := o.mustStand()
	header, _ := head.Of(o.load(o.at))
	x := api.Object{At: o.at, Head: header, Link: o.load(o.at + linkAt)}
	for i := fieldsAt; i < n; i++ {
		x.Fields = append(x.Fields, o.load(o.at+i))
	}
	return x
}

func (o object) place(field int) int {
	n := o.mustStand()
	if field < 0 || field >= n-fieldsAt {
		giveUp(api.ErrField)
	}
	return o.at + fieldsAt + field
}

// lay is the words of an object that is put, from its address on.
func (o object) lay(x api.Object) []uint64 {
	header, errno := head.Make(x.Head)
	if errno != api.OK {
		giveUp(api.ErrArg)
	}
	n, errno := head.Size(header, o.Shapes)
	if errno != api.OK || len(x.Fields) != n-fieldsAt {
		giveUp(api.ErrArg)
	}
	if !o.to(x.At).fits(n) {
		giveUp(api.ErrRange)
	}
	return append([]uint64{header, x.Link}, x.Fields...)
}

func (o object) walk(space, from, until int) []int {
	base, errno := layout.Base(o.Plan, space)
	if errno != api.OK || from < 0 || from > until || until > o.Space {
		giveUp(api.ErrRange)
	}
	o.at, o.end = base+from, base+o.Space
	var l []int
walk:
	for next := range o.onward() {
		switch {
		case next.at >= base+until:
			break walk
		case next.words() > 0:
			l = append(l, next.at)
		}
	}
	return l
}

// onward goes over what may stand from the object's own address on. Each is told before its words are looked at: who leaves at a word has not looked there.
func (o object) onward() iter.Seq[object] {
	return func(yield func(object) bool) {
		next := o
		for next.at < next.end && yield(next) {
			next.at += max(next.words(), 1)
		}
	}
}
