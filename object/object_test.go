package object_test

import (
	"fmt"
	"math"
	"slices"
	"strings"
	"testing"

	"lapidary/api"
	"lapidary/arena"
	"lapidary/layout"
	"lapidary/object"
)

// The limits, as the document's table has them.
const (
	minSpace   = 32
	maxSpace   = 4096
	maxThreads = 8
)

func planOf(threads, space int, shapes ...api.Shape) api.Plan {
	return api.Plan{Threads: threads, Space: space, Shapes: shapes}
}

// manyShapes are as many shapes as a table has at most, of every number of fields.
func manyShapes() []api.Shape {
	return []api.Shape{
		"psp", "p", "ss", "", "", "spspspsp", "s", "pp", "pppppppp", "psps", "p", "sssss", "", "pspsps", "ppppppp", "ps",
	}
}

func fairPlans() []api.Plan {
	return []api.Plan{
		planOf(1, minSpace, ""), planOf(1, minSpace, "p", "ss"), planOf(2, 40, "", "pppppppp"), planOf(3, 33, "ssssssss"),
		planOf(maxThreads, minSpace, manyShapes()...), planOf(5, 100, manyShapes()...), planOf(2, 47, manyShapes()[:4]...),
	}
}

func name(p api.Plan) string {
	return fmt.Sprintf("(%d threads, %d words, %.60q)", p.Threads, p.Space, p.Shapes)
}

// base is the number of a space's first word.
func base(p api.Plan, space int) int { return 3 + 2*p.Threads + space*p.Space }

func length(p api.Plan) int { return base(p, 2) }

// headWord is a header's word.
func headWord(shape int, mark api.Mark) uint64 { return 8*(4*uint64(shape)+uint64(mark)) + 6 }

// wordsOf are an object's words as they are to stand.
func wordsOf(x api.Object) []uint64 {
	return append([]uint64{headWord(x.Head.Shape, x.Head.Mark), x.Link}, x.Fields...)
}

func of(t *testing.T, l ...uint64) *arena.Arena {
	t.Helper()
	a, errno := arena.Of(l...)
	if errno != 0 {
		t.Fatalf("an arena of %d words: %d", len(l), errno)
	}
	return a
}

// nought is a plan's arena without any object.
func nought(t *testing.T, p api.Plan) *arena.Arena {
	t.Helper()
	return of(t, make([]uint64, length(p))...)
}

// laid is a plan's arena with some words from some place on.
func laid(t *testing.T, p api.Plan, at int, l ...uint64) *arena.Arena {
	t.Helper()
	all := make([]uint64, length(p))
	if at+len(l) > len(all) {
		t.Fatalf("%d words do not go to %d of %s", len(l), at, name(p))
	}
	copy(all[at:], l)
	return of(t, all...)
}

func list(a *arena.Arena) []uint64 {
	var l []uint64
	for _, w := range a.All() {
		l = append(l, w)
	}
	return l
}

// whole asks whether two objects are the same without asking the package.
func whole(x, y api.Object) bool {
	return x.At == y.At && x.Head == y.Head && x.Link == y.Link && slices.Equal(x.Fields, y.Fields)
}

func isZero(x api.Object) bool { return whole(x, api.Object{}) }

// objectOf is an object of a shape, each of whose words is told from all others.
func objectOf(p api.Plan, at, shape int, mark api.Mark) api.Object {
	x := api.Object{At: at, Head: api.Head{Shape: shape, Mark: mark}, Link: 1<<63 + uint64(at)}
	for i := range len(p.Shapes[shape]) {
		x.Fields = append(x.Fields, uint64(i+1)*0x9e3779b97f4a7c15+uint64(at))
	}
	return x
}

// fitting are objects of each shape and mark that begin with a space, lie within it, and end with it.
func fitting(p api.Plan) []api.Object {
	var all []api.Object
	for shape, s := range p.Shapes {
		size := 2 + len(s)
		for space := range 2 {
			for i, at := range []int{0, 1, p.Space / 2, p.Space - size - 1, p.Space - size} {
				all = append(all, objectOf(p, base(p, space)+at, shape, api.Mark((i+shape)%3)))
			}
		}
		for mark := range api.Mark(3) {
			all = append(all, objectOf(p, base(p, 0)+3, shape, mark))
		}
	}
	return all
}

func huge() []int {
	return []int{
		1 << 16, 1 << 24, 1 << 32, 1<<32 + 1, 1<<32 + 7, 1 << 61, 1 << 62, -1 << 16, -1 << 32, -1<<32 + 7, -1 << 62, math.MaxInt32, math.MinInt32,
		math.MaxInt, math.MaxInt - 1, math.MaxInt - 3, math.MinInt, math.MinInt + 1, math.MinInt + 7,
	}
}

// outside are numbers of no word of a space: those of other parts, the ones beside the spaces, and far ones.
func outside(p api.Plan) []int {
	all := append(huge(), -1, -2, -base(p, 0), -length(p), length(p), length(p)+1, length(p)+p.Space, 16384)
	for at := range base(p, 0) {
		all = append(all, at)
	}
	return all
}

func wrongTables() [][]api.Shape {
	return [][]api.Shape{
		nil, {}, {"x"}, {"ps", "x"}, {"P"}, {"-"}, {"p s"}, {"ppppppppp"}, {"p", "\xff"}, {"é"},
		append(manyShapes(), ""), slices.Repeat([]api.Shape{"ps"}, 1000), {api.Shape(strings.Repeat("p", 65536))},
	}
}

func wrongPlans() []api.Plan {
	all := []api.Plan{{}}
	for _, n := range append(huge(), 0, -1, maxThreads+1) {
		all = append(all, planOf(n, 40, "ps"), planOf(n, minSpace-1, "x"))
	}
	for _, n := range append(huge(), 0, 1, -1, minSpace-1, maxSpace+1) {
		all = append(all, planOf(1, n, "ps"))
	}
	for _, l := range wrongTables() {
		all = append(all, planOf(1, minSpace, l...), planOf(maxThreads, maxSpace, l...))
	}
	return all
}

// noArenas are those that no call made.
func noArenas() map[string]*arena.Arena {
	refused, _ := arena.New(0)
	return map[string]*arena.Arena{"nil": nil, "of 0 words": {}, "refused": refused}
}

// refuses asks that each call answers an error and nothing else, and leaves the arena as it is.
func refuses(t *testing.T, a *arena.Arena, p api.Plan, at, field, space, from, until int, x api.Object, want api.Errno) {
	t.Helper()
	before := list(a)
	refusesRead(t, a, p, at, want)
	refusesPlace(t, a, p, at, field, want)
	refusesWalk(t, a, p, space, from, until, want)
	refusesPut(t, a, p, x, want)
	if !slices.Equal(before, list(a)) {
		t.Errorf("%s: words changed where %d is answered", name(p), want)
	}
}

func refusesRead(t *testing.T, a *arena.Arena, p api.Plan, at int, want api.Errno) {
	t.Helper()
	if x, errno := object.Read(a, p, at); !isZero(x) || errno != want {
		t.Errorf("Read(%s, %d) = %v, %d; not %d", name(p), at, x, errno, want)
	}
}

func refusesPlace(t *testing.T, a *arena.Arena, p api.Plan, at, field int, want api.Errno) {
	t.Helper()
	if n, errno := object.Place(a, p, at, field); n != 0 || errno != want {
		t.Errorf("Place(%s, %d, %d) = %d, %d; not %d", name(p), at, field, n, errno, want)
	}
}

func refusesWalk(t *testing.T, a *arena.Arena, p api.Plan, space, from, until int, want api.Errno) {
	t.Helper()
	if l, errno := object.Walk(a, p, space, from, until); len(l) != 0 || errno != want {
		t.Errorf("Walk(%s, %d, %d, %d) = %v, %d; not %d", name(p), space, from, until, l, errno, want)
	}
}

func refusesPut(t *testing.T, a *arena.Arena, p api.Plan, x api.Object, want api.Errno) {
	t.Helper()
	before := list(a)
	if errno := object.Put(a, p, x); errno != want {
		t.Errorf("Put(%s, %v) = %d; not %d", name(p), x, errno, want)
	}
	if !slices.Equal(before, list(a)) {
		t.Errorf("Put(%s, %v) changed words", name(p), x)
	}
}

func walks(t *testing.T, a *arena.Arena, p api.Plan, space, from, until int, want ...int) {
	t.Helper()
	if l, errno := object.Walk(a, p, space, from, until); !slices.Equal(l, want) || errno != 0 {
		t.Errorf("Walk(%s, %d, %d, %d) = %v, %d; not %v", name(p), space, from, until, l, errno, want)
	}
}

// P7.1: what is laid word by word is read, at the edges of both spaces, of each shape and mark; the words of all parts are told.
func TestRead(t *testing.T) {
	for _, p := range fairPlans() {
		for _, want := range fitting(p) {
			a := laid(t, p, want.At, wordsOf(want)...)
			before := list(a)
			if x, errno := object.Read(a, p, want.At); !whole(x, want) || errno != 0 {
				t.Errorf("Read(%s, %d) = %v, %d; not %v", name(p), want.At, x, errno, want)
			}
			if !slices.Equal(before, list(a)) {
				t.Errorf("Read(%s, %d) changed words", name(p), want.At)
			}
		}
	}
}

// P7.1: numbers of no word of a space, those beside the first and the last one among them, though headers stand everywhere.
func TestReadAndPlaceRefuseAddresses(t *testing.T) {
	for _, p := range fairPlans() {
		a := of(t, slices.Repeat([]uint64{6}, length(p))...)
		for _, at := range outside(p) {
			refusesRead(t, a, p, at, 4)
			for _, field := range []int{0, -1, 9, math.MaxInt, math.MinInt} {
				refusesPlace(t, a, p, at, field, 4)
			}
		}
	}
}

// P7.1: the first and the last word of each space are of it: no object stands there, but the address is one.
func TestReadAndPlaceAtTheEdges(t *testing.T) {
	for _, p := range fairPlans() {
		a := nought(t, p)
		for _, at := range []int{base(p, 0), base(p, 1) - 1, base(p, 1), base(p, 2) - 1} {
			refusesRead(t, a, p, at, 170)
			refusesPlace(t, a, p, at, 0, 170)
		}
		refusesRead(t, a, p, base(p, 0)-1, 4)
		refusesRead(t, a, p, base(p, 2), 4)
		refusesPlace(t, a, p, base(p, 0)-1, 0, 4)
		refusesPlace(t, a, p, base(p, 2), 0, 4)
	}
}

// P7.1: where one word of the object would be beyond its space none stands, though the next space's words could be its own.
func TestObjectsThatWouldGoBeyond(t *testing.T) {
	for _, p := range fairPlans() {
		for shape, s := range p.Shapes {
			size := 2 + len(s)
			for space := range 2 {
				end := base(p, space) + p.Space
				for missing := 1; missing < size; missing++ {
					at := end - size + missing
					a := laid(t, p, at, headWord(shape, 0))
					refusesRead(t, a, p, at, 170)
					refusesPlace(t, a, p, at, 0, 170)
					walks(t, a, p, space, 0, p.Space)
				}
				a := laid(t, p, end-size, headWord(shape, 0))
				if x, errno := object.Read(a, p, end-size); errno != 0 || x.At != end-size || len(x.Fields) != len(s) {
					t.Errorf("Read(%s, %d) = %v, %d: it ends with its space", name(p), end-size, x, errno)
				}
				walks(t, a, p, space, 0, p.Space, end-size)
			}
		}
	}
}

// noHeaders are words that tell no header, or, of a table of two shapes, none whose shape it has.
func noHeaders() []uint64 {
	return []uint64{
		0, 1, 2, 3, 4, 5, 7, 8, 13, 15, 16, 17, 30, 62, 1 << 62, 1<<62 + 4, 1<<63 + 6, 1<<32 + 6, 518, 526, 534, math.MaxUint64, math.MaxUint64 - 1,
		headWord(2, 0), headWord(2, 1), headWord(2, 2), headWord(3, 0), headWord(15, 2),
	}
}

// P7.1, P7.3: words that are no header, and headers of a shape that the table has not; the last shape that it has is told.
func TestWordsThatAreNoHeader(t *testing.T) {
	p := planOf(1, minSpace, "p", "ss")
	for _, w := range noHeaders() {
		for _, at := range []int{base(p, 0), base(p, 0) + 9, base(p, 1), base(p, 1) + 9} {
			a := laid(t, p, at, w)
			refusesRead(t, a, p, at, 170)
			for _, field := range []int{0, 1, -1, 9, math.MaxInt} {
				refusesPlace(t, a, p, at, field, 170)
			}
			walks(t, a, p, 0, 0, minSpace)
			walks(t, a, p, 1, 0, minSpace)
		}
	}
	for mark := range api.Mark(3) {
		at := base(p, 1) + 9
		a := laid(t, p, at, headWord(1, mark), 0, 6, 14)
		want := api.Object{At: at, Head: api.Head{Shape: 1, Mark: mark}, Fields: []uint64{6, 14}}
		if x, errno := object.Read(a, p, at); !whole(x, want) || errno != 0 {
			t.Errorf("Read(%d) = %v, %d; not %v", at, x, errno, want)
		}
	}
}

// P7.1, P7.3: a header that is an object's link or field is a header where one asks for it, but a walk goes on behind the object.
func TestHeadersWithinObjects(t *testing.T) {
	p := planOf(2, 40, "", "pspsps")
	at := base(p, 0) + 4
	a := laid(t, p, at, headWord(1, 0), headWord(0, 1), headWord(1, 2), 5, headWord(0, 0), 5, 5, headWord(0, 2), 70, 71)
	walks(t, a, p, 0, 0, 40, at)
	walks(t, a, p, 0, 5, 40, at+1, at+4, at+7)
	walks(t, a, p, 0, 6, 40, at+2)
	walks(t, a, p, 0, 7, 40, at+4, at+7)
	for _, want := range []api.Object{
		{At: at, Head: api.Head{Shape: 1}, Link: headWord(0, 1), Fields: []uint64{headWord(1, 2), 5, headWord(0, 0), 5, 5, headWord(0, 2)}},
		{At: at + 1, Head: api.Head{Shape: 0, Mark: 1}, Link: headWord(1, 2)},
		{At: at + 2, Head: api.Head{Shape: 1, Mark: 2}, Link: 5, Fields: []uint64{headWord(0, 0), 5, 5, headWord(0, 2), 70, 71}},
		{At: at + 7, Head: api.Head{Shape: 0, Mark: 2}, Link: 70},
	} {
		if x, errno := object.Read(a, p, want.At); !whole(x, want) || errno != 0 {
			t.Errorf("Read(%d) = %v, %d; not %v", want.At, x, errno, want)
		}
	}
	refusesRead(t, a, p, at+3, 170)
}

// P7.1: each field's word, of each shape, at the edges of both spaces.
func TestPlace(t *testing.T) {
	for _, p := range fairPlans() {
		for _, x := range fitting(p) {
			a := laid(t, p, x.At, wordsOf(x)...)
			for field, w := range x.Fields {
				n, errno := object.Place(a, p, x.At, field)
				if n != x.At+2+field || errno != 0 {
					t.Errorf("Place(%s, %d, %d) = %d, %d", name(p), x.At, field, n, errno)
				}
				if got, _ := a.Load(n); got != w {
					t.Errorf("Place(%s, %d, %d) = %d, where %d stands; not %d", name(p), x.At, field, n, got, w)
				}
			}
		}
	}
}

// P7.1: one ahead of the first field, one past the last, and far ones; of a shape without fields there is not even the first.
func TestPlaceRefusesFields(t *testing.T) {
	for _, p := range fairPlans() {
		for _, x := range fitting(p) {
			a := laid(t, p, x.At, wordsOf(x)...)
			n := len(x.Fields)
			for _, field := range append(huge(), -1, -2, -n-1, n, n+1, n+2, 9) {
				refusesPlace(t, a, p, x.At, field, 131)
			}
		}
	}
}

// P7.1: Same of two that are the same, and of two that differ in one part.
func TestSame(t *testing.T) {
	full := func() api.Object {
		return api.Object{At: 9, Head: api.Head{Shape: 3, Mark: 1}, Link: 8, Fields: []uint64{1, 2, 3}}
	}
	fair := func(x, y api.Object, want bool) {
		t.Helper()
		if object.Same(x, y) != want || object.Same(y, x) != want {
			t.Errorf("Same(%v, %v) is not %v, or not both ways", x, y, want)
		}
	}
	fair(full(), full(), true)
	fair(api.Object{}, api.Object{}, true)
	for _, change := range []func(x *api.Object){
		func(x *api.Object) { x.At = 10 },
		func(x *api.Object) { x.At = 9 + 1<<32 },
		func(x *api.Object) { x.At = -9 },
		func(x *api.Object) { x.Head.Shape = 4 },
		func(x *api.Object) { x.Head.Mark = 2 },
		func(x *api.Object) { x.Head = api.Head{Shape: 1, Mark: 3} },
		func(x *api.Object) { x.Link = 0 },
		func(x *api.Object) { x.Link = 8 + 1<<63 },
		func(x *api.Object) { x.Fields[0] = 0 },
		func(x *api.Object) { x.Fields[1] = 1<<32 + 2 },
		func(x *api.Object) { x.Fields[2] = 2 },
		func(x *api.Object) { x.Fields = x.Fields[:2] },
		func(x *api.Object) { x.Fields = append(x.Fields, 0) },
		func(x *api.Object) { x.Fields = []uint64{3, 2, 1} },
		func(x *api.Object) { x.Fields = nil },
		func(x *api.Object) { x.Fields = []uint64{} },
		func(x *api.Object) { *x = api.Object{} },
	} {
		x := full()
		change(&x)
		fair(x, full(), false)
		fair(x, x, true)
	}
}

// P7.1: Same takes no fields and an empty list of them for the same, looks at no spare room, and takes what may not be.
func TestSameOfOddObjects(t *testing.T) {
	x, y := api.Object{At: 3, Fields: nil}, api.Object{At: 3, Fields: []uint64{}}
	room, other := []uint64{1, 2, 3}, []uint64{1, 2, 4}
	long := make([]uint64, 100000)
	for _, row := range []struct {
		x, y api.Object
		want bool
	}{
		{x, y, true},
		{api.Object{Fields: room[:2]}, api.Object{Fields: other[:2]}, true},
		{api.Object{Fields: room[:0]}, api.Object{}, true},
		{api.Object{Fields: room[:2]}, api.Object{Fields: room}, false},
		{api.Object{At: math.MinInt, Head: api.Head{Shape: -1, Mark: 99}}, api.Object{At: math.MinInt, Head: api.Head{Shape: -1, Mark: 99}}, true},
		{api.Object{At: math.MinInt}, api.Object{At: math.MaxInt}, false},
		{api.Object{Fields: long}, api.Object{Fields: slices.Clone(long)}, true},
		{api.Object{Fields: long}, api.Object{Fields: long[:99999]}, false},
	} {
		if object.Same(row.x, row.y) != row.want || object.Same(row.y, row.x) != row.want {
			t.Errorf("Same of %.60v and %.60v is not %v", fmt.Sprint(row.x), fmt.Sprint(row.y), row.want)
		}
	}
}

// P7.2, P7.4: the object's words are just that, no other word changes, whatever stood there; Read behind it is the object.
func TestPut(t *testing.T) {
	for _, p := range fairPlans() {
		for _, x := range fitting(p) {
			for _, fill := range []uint64{0, 6, 5, math.MaxUint64} {
				before := slices.Repeat([]uint64{fill}, length(p))
				a := of(t, before...)
				if errno := object.Put(a, p, x); errno != 0 {
					t.Errorf("Put(%s, %v) = %d", name(p), x, errno)
				}
				copy(before[x.At:], wordsOf(x))
				if !slices.Equal(list(a), before) {
					t.Errorf("Put(%s, %v): the words are %v; not %v", name(p), x, list(a), before)
				}
				if y, errno := object.Read(a, p, x.At); !whole(x, y) || !object.Same(x, y) || errno != 0 {
					t.Errorf("Read behind Put(%s, %v) = %v, %d", name(p), x, y, errno)
				}
			}
		}
	}
}

// P7.2, P7.4: a link and fields are any words, headers among them, and no fields may be nil or an empty list.
func TestPutAnyWords(t *testing.T) {
	p := planOf(1, minSpace, "ps", "")
	for _, w := range append(noHeaders(), 6, 14, 22, 38) {
		for _, x := range []api.Object{
			{At: 7, Link: w, Fields: []uint64{w, w}},
			{At: 7, Link: w, Fields: []uint64{0, w}},
			{At: 9, Head: api.Head{Shape: 1, Mark: 2}, Link: w},
			{At: 9, Head: api.Head{Shape: 1, Mark: 2}, Link: w, Fields: []uint64{}},
		} {
			a := nought(t, p)
			if errno := object.Put(a, p, x); errno != 0 {
				t.Errorf("Put(%v) = %d", x, errno)
			}
			if y, errno := object.Read(a, p, x.At); !object.Same(x, y) || errno != 0 {
				t.Errorf("Read behind Put(%v) = %v, %d", x, y, errno)
			}
		}
	}
}

// P7.2: a mark, a shape, a number of fields that may not be; nothing is done, wherever the object is to be put.
func TestPutRefusesObjects(t *testing.T) {
	for _, p := range fairPlans() {
		a := of(t, slices.Repeat([]uint64{77}, length(p))...)
		for _, at := range []int{base(p, 0), base(p, 1), base(p, 2) - 1, base(p, 2), 0, -1, math.MaxInt, math.MinInt} {
			x := objectOf(p, at, 0, 0)
			for _, mark := range append(huge(), 3, 4, -1, 256, 257) {
				x.Head.Mark = api.Mark(mark)
				refusesPut(t, a, p, x, 2)
			}
			x = objectOf(p, at, 0, 0)
			for _, shape := range append(huge(), -1, -2, len(p.Shapes), len(p.Shapes)+1, 16, 17, 64, 256) {
				x.Head.Shape = shape
				refusesPut(t, a, p, x, 2)
			}
			for shape, s := range p.Shapes {
				for n := range 12 {
					if n != len(s) {
						refusesPut(t, a, p, api.Object{At: at, Head: api.Head{Shape: shape}, Fields: make([]uint64, n)}, 2)
					}
				}
				refusesPut(t, a, p, api.Object{At: at, Head: api.Head{Shape: shape}, Fields: make([]uint64, 100000)}, 2)
			}
		}
	}
}

// P7.2: addresses of no word of a space, and objects that would have one word or more beyond it; nothing is done.
func TestPutRefusesAddresses(t *testing.T) {
	for _, p := range fairPlans() {
		a := of(t, slices.Repeat([]uint64{77}, length(p))...)
		for shape, s := range p.Shapes {
			for _, at := range outside(p) {
				refusesPut(t, a, p, objectOf(p, at, shape, 1), 4)
			}
			for space := range 2 {
				end := base(p, space) + p.Space
				for at := end - 1 - len(s); at < end; at++ {
					refusesPut(t, a, p, objectOf(p, at, shape, 2), 4)
				}
			}
		}
	}
}

// P7.2: an object that would have begun in another part, and would have ended in a space, is refused too.
func TestPutRefusesObjectsAheadOfTheSpaces(t *testing.T) {
	p := planOf(1, minSpace, "pppppppp")
	a := nought(t, p)
	for at := -12; at < base(p, 0); at++ {
		refusesPut(t, a, p, objectOf(p, at, 0, 0), 4)
	}
}

// P7.3: walks of nothing, of everything, of a part; words between objects, ahead of the first and behind the last.
func TestWalk(t *testing.T) {
	p := planOf(1, minSpace, "p", "ss", "")
	for space := range 2 {
		b := base(p, space)
		// Objects of three words at 0 and 3, of four at 9, of two at 30; none in between.
		a := nought(t, p)
		for _, x := range []api.Object{
			objectOf(p, b, 0, 0), objectOf(p, b+3, 0, 1), objectOf(p, b+9, 1, 2), objectOf(p, b+30, 2, 0),
		} {
			if errno := object.Put(a, p, x); errno != 0 {
				t.Fatalf("Put(%v) = %d", x, errno)
			}
		}
		walks(t, a, p, space, 0, 32, b, b+3, b+9, b+30)
		walks(t, a, p, space, 0, 0)
		for at := range 33 {
			walks(t, a, p, space, at, at)
		}
		walks(t, a, p, space, 0, 1, b)      // it ends within the object
		walks(t, a, p, space, 0, 2, b)      // it ends within the object
		walks(t, a, p, space, 0, 3, b)      // it ends with the object
		walks(t, a, p, space, 0, 4, b, b+3) // it ends with the next one's header
		walks(t, a, p, space, 1, 3)         // it begins and ends within the object
		walks(t, a, p, space, 1, 32, b+3, b+9, b+30)
		walks(t, a, p, space, 3, 9, b+3)
		walks(t, a, p, space, 6, 9)
		walks(t, a, p, space, 6, 10, b+9)
		walks(t, a, p, space, 10, 30)
		walks(t, a, p, space, 10, 31, b+30)
		walks(t, a, p, space, 30, 32, b+30)
		walks(t, a, p, space, 31, 32)
		walks(t, a, p, space, 9, 10, b+9)
		walks(t, a, p, 1-space, 0, 32)
	}
}

// P7.3: a space full of the least objects, and of the greatest ones, at the greatest number of words.
func TestWalkOfFullSpaces(t *testing.T) {
	for _, s := range []api.Shape{"", "pspspsps"} {
		p := planOf(maxThreads, maxSpace, s)
		size := 2 + len(s)
		a := nought(t, p)
		for space := range 2 {
			var want []int
			for at := 0; at+size <= maxSpace; at += size {
				if errno := object.Put(a, p, objectOf(p, base(p, space)+at, 0, 0)); errno != 0 {
					t.Fatalf("Put at %d of %s: %d", at, name(p), errno)
				}
				want = append(want, base(p, space)+at)
			}
			walks(t, a, p, space, 0, maxSpace, want...)
			walks(t, a, p, space, size, maxSpace, want[1:]...)
			walks(t, a, p, space, 0, maxSpace-size, want[:(maxSpace-1)/size]...)
		}
	}
}

// P7.3: spaces that are not there, words that are not from 0 to the space's number of words, the first above the last.
func TestWalkRefuses(t *testing.T) {
	for _, p := range fairPlans() {
		a := of(t, slices.Repeat([]uint64{6}, length(p))...)
		before := list(a)
		for _, space := range append(huge(), -1, -2, 2, 3) {
			refusesWalk(t, a, p, space, 0, p.Space, 4)
			refusesWalk(t, a, p, space, 0, 0, 4)
			refusesWalk(t, a, p, space, 5, -5, 4)
		}
		for space := range 2 {
			for _, n := range append(huge(), -1, -2, -p.Space, p.Space+1, p.Space+2, 2*p.Space, length(p)) {
				refusesWalk(t, a, p, space, n, p.Space, 4)
				refusesWalk(t, a, p, space, n, n, 4)
				refusesWalk(t, a, p, space, 0, n, 4)
				refusesWalk(t, a, p, space, n, 0, 4)
			}
			refusesWalk(t, a, p, space, 1, 0, 4)
			refusesWalk(t, a, p, space, p.Space, p.Space-1, 4)
			refusesWalk(t, a, p, space, p.Space, 0, 4)
			walks(t, a, p, space, p.Space, p.Space)
		}
		if !slices.Equal(before, list(a)) {
			t.Errorf("%s: a walk changed words", name(p))
		}
	}
}

// P7.1 to P7.3: no arena is told ahead of all else that is wrong.
func TestNoArena(t *testing.T) {
	fair := planOf(1, minSpace, "p")
	for kind, a := range noArenas() {
		for _, p := range append(wrongPlans(), fair) {
			refuses(t, a, p, 5, 0, 0, 0, 32, objectOf(fair, 5, 0, 0), 1)
			refuses(t, a, p, -1, -1, 2, 5, -5, api.Object{At: math.MinInt, Head: api.Head{Shape: 99, Mark: -1}}, 1)
		}
		if t.Failed() {
			t.Fatalf("the arena was %s", kind)
		}
	}
}

// P7.1 to P7.3: a plan that may not be is told ahead of addresses, fields, spaces and words that are not there, whatever the arena's length.
func TestWrongPlans(t *testing.T) {
	for _, p := range wrongPlans() {
		lengths := []int{1, 69, 71, 16384}
		if p.Threads > 0 && p.Threads < 100 && p.Space > 0 && p.Space < 5000 {
			lengths = append(lengths, length(p))
		}
		for _, n := range lengths {
			a := of(t, slices.Repeat([]uint64{6}, n)...)
			refuses(t, a, p, 5, 0, 0, 0, 32, api.Object{At: 5}, 2)
			refuses(t, a, p, -1, -1, 2, 5, -5, api.Object{At: math.MinInt, Head: api.Head{Shape: 99, Mark: -1}}, 2)
		}
	}
}

// P7.1 to P7.3: an arena of one word fewer or one more than the plan's, and of quite another number of words.
func TestArenasOfOtherLengths(t *testing.T) {
	for _, p := range append(fairPlans(), planOf(maxThreads, maxSpace, "p")) {
		x := objectOf(p, base(p, 0), 0, 0)
		for _, n := range []int{length(p) - 1, length(p) + 1, 1, length(p) - p.Space, length(p) + p.Space} {
			a := of(t, slices.Repeat([]uint64{6}, n)...)
			refuses(t, a, p, base(p, 0), 0, 0, 0, p.Space, x, 2)
			refuses(t, a, p, length(p), 0, 0, 0, 0, api.Object{At: n}, 2)
			refuses(t, a, p, -1, -1, 2, 5, -5, api.Object{At: math.MinInt, Head: api.Head{Shape: 99, Mark: -1}}, 2)
		}
	}
}

// An arena of a plan has as many words as the plan's: two plans of one number of words may both be asked of one arena.
func TestPlansOfOneLength(t *testing.T) {
	p, q := planOf(1, 33, "p"), planOf(2, 32, "pp")
	if length(p) != length(q) {
		t.Fatal("they have not one length")
	}
	a := laid(t, p, 5, 6, 0, 7, 6, 0, 7, 7)
	walks(t, a, p, 0, 0, 33, 5, 8)
	walks(t, a, q, 0, 0, 32, 8)
	refusesRead(t, a, q, 5, 4)
	if x, errno := object.Read(a, q, 8); errno != 0 || !slices.Equal(x.Fields, []uint64{7, 7}) {
		t.Errorf("Read(8) = %v, %d", x, errno)
	}
}

// P7.1 to P7.3: of several things that are wrong at once the first one of the document's order is answered.
func TestOrderOfErrors(t *testing.T) {
	p := planOf(1, minSpace, "p", "ss")
	a := laid(t, p, 5, headWord(1, 0), 0, 4, 12)
	refusesPlace(t, a, p, 4, 2, 4)     // no word of a space, and no field
	refusesPlace(t, a, p, 6, 2, 170)   // no object, and no field
	refusesPlace(t, a, p, 5, 2, 131)   // no field
	refusesPlace(t, a, p, 68, -1, 170) // no object, and no field
	refusesPlace(t, a, p, 69, -1, 4)   // no word of a space, and no field
	for _, x := range []api.Object{
		{At: 4, Head: api.Head{Shape: 2}},                                    // no shape, no word of a space
		{At: 4, Head: api.Head{Mark: 3}, Fields: []uint64{0}},                // no mark, no word of a space
		{At: 4, Head: api.Head{Shape: 1}, Fields: []uint64{0}},               // too few fields, no word of a space
		{At: 36, Head: api.Head{Shape: 1}, Fields: []uint64{0, 0, 0}},        // too many fields, words beyond the space
		{At: -1, Head: api.Head{Shape: -1, Mark: -1}, Fields: []uint64{0}},   // all of it
		{At: 35, Head: api.Head{Shape: 1, Mark: 77}, Fields: []uint64{0, 0}}, // no mark, words beyond the space
	} {
		refusesPut(t, a, p, x, 2)
	}
	refusesPut(t, a, p, objectOf(p, 34, 1, 0), 4)
}

// stands is how many words the object has that stands at a word of a space, as the document says; 0 where none stands.
func stands(l []uint64, p api.Plan, at int) int {
	end := base(p, 1)
	if at >= end {
		end = base(p, 2)
	}
	for shape, s := range p.Shapes {
		for mark := range api.Mark(3) {
			if l[at] == headWord(shape, mark) && at+2+len(s) <= end {
				return 2 + len(s)
			}
		}
	}
	return 0
}

func walked(l []uint64, p api.Plan, space, from, until int) []int {
	var all []int
	for at := base(p, space) + from; at < base(p, space)+until; {
		n := stands(l, p, at)
		if n > 0 {
			all = append(all, at)
		}
		at += max(n, 1)
	}
	return all
}

// mixed are words of a plan's arena, every other one or fewer a header, of shapes that the table has or has not; the seed tells which.
func mixed(p api.Plan, seed uint64) []uint64 {
	l := make([]uint64, length(p))
	for i := range l {
		seed = seed*6364136223846793005 + 1442695040888963407
		kind, rest := seed>>33%(2+seed>>60), seed>>40
		l[i] = rest
		if kind == 0 {
			l[i] = headWord(int(rest%uint64(len(p.Shapes)+1)), api.Mark(rest>>8%4))
		}
	}
	return l
}

// P7.1, P7.3: of mixed words each call answers as the document's words, gone through by hand, do.
func TestMixedWords(t *testing.T) {
	for _, p := range fairPlans() {
		for seed := range uint64(40) {
			l := mixed(p, seed)
			a := of(t, l...)
			for at := base(p, 0); at < length(p); at++ {
				n := stands(l, p, at)
				if n == 0 {
					refusesRead(t, a, p, at, 170)
					refusesPlace(t, a, p, at, 0, 170)
					continue
				}
				x, errno := object.Read(a, p, at)
				if errno != 0 || x.At != at || !slices.Equal(wordsOf(x), l[at:at+n]) {
					t.Errorf("Read(%s, %d) = %v, %d; not %v", name(p), at, x, errno, l[at:at+n])
				}
				if last, errno := object.Place(a, p, at, n-3); n > 2 && (last != at+n-1 || errno != 0) {
					t.Errorf("Place(%s, %d, %d) = %d, %d", name(p), at, n-3, last, errno)
				}
				refusesPlace(t, a, p, at, n-2, 131)
			}
			if !slices.Equal(list(a), l) {
				t.Fatalf("%s: words changed", name(p))
			}
		}
	}
}

// P7.3, P7.4: walks from every word up to every other one; they rise, and share no word.
func TestWalksOfMixedWords(t *testing.T) {
	for _, p := range fairPlans() {
		for seed := range uint64(3) {
			l := mixed(p, seed+100)
			a := of(t, l...)
			for space := range 2 {
				for from := 0; from <= p.Space; from++ {
					for until := from; until <= p.Space; until += 1 + (until-from)/7 {
						walks(t, a, p, space, from, until, walked(l, p, space, from, until)...)
					}
				}
			}
		}
	}
}

// P7.4: objects that a walk tells can be read, rise, and share no word.
func TestWalkSharesNoWord(t *testing.T) {
	for _, p := range fairPlans() {
		for seed := range uint64(20) {
			a := of(t, mixed(p, seed+200)...)
			for space := range 2 {
				for from := range 12 {
					told, _ := object.Walk(a, p, space, from, p.Space)
					free := base(p, space) + from
					for _, at := range told {
						x, errno := object.Read(a, p, at)
						if errno != 0 || at < free {
							t.Fatalf("%s: Walk(%d, %d) tells %d, where %d is answered; the words ahead of %d are taken", name(p), space, from, at, errno, free)
						}
						free = at + 2 + len(x.Fields)
					}
					if free > base(p, space)+p.Space {
						t.Fatalf("%s: Walk(%d, %d) tells an object up to %d", name(p), space, from, free)
					}
				}
			}
		}
	}
}

// P7.4: a walk in two parts, of which the second one begins where an object that was told ends, is the walk.
func TestWalkInTwoParts(t *testing.T) {
	for _, p := range fairPlans() {
		for seed := range uint64(10) {
			a := of(t, mixed(p, seed+300)...)
			for space := range 2 {
				for _, until := range []int{p.Space / 2, p.Space - 1, p.Space} {
					inTwoParts(t, a, p, space, until)
				}
			}
		}
	}
}

func inTwoParts(t *testing.T, a *arena.Arena, p api.Plan, space, until int) {
	t.Helper()
	told, _ := object.Walk(a, p, space, 0, until)
	for _, at := range told {
		x, _ := object.Read(a, p, at)
		cut := at + 2 + len(x.Fields) - base(p, space)
		if cut > until {
			continue
		}
		first, errno1 := object.Walk(a, p, space, 0, cut)
		second, errno2 := object.Walk(a, p, space, cut, until)
		if errno1 != 0 || errno2 != 0 || !slices.Equal(append(first, second...), told) {
			t.Errorf("%s: Walk(%d) in two parts at %d: %v, %v; not %v", name(p), space, cut, first, second, told)
		}
	}
}

// P7.1, P7.3: the object that stands in an arena at the start.
func TestStart(t *testing.T) {
	for _, p := range append(fairPlans(), planOf(maxThreads, maxSpace, "spspspsp", "p")) {
		l, _ := layout.Start(p)
		a := of(t, l...)
		b := base(p, 0)
		want := api.Object{At: b, Fields: l[b+2 : b+2+len(p.Shapes[0])]}
		if x, errno := object.Read(a, p, b); !whole(x, want) || errno != 0 {
			t.Errorf("Read(%s, %d) = %v, %d", name(p), b, x, errno)
		}
		walks(t, a, p, 0, 0, p.Space, b)
		walks(t, a, p, 1, 0, p.Space)
	}
}

// Rules: neither a plan's table nor an object's fields are changed, spare room behind them included, or kept.
func TestWhatIsHandedInIsLeft(t *testing.T) {
	shapes, fields := manyShapes(), []uint64{1, 2, 3, 4, 5}
	p := planOf(2, 40, shapes[:3]...)
	a := nought(t, p)
	x := api.Object{At: 9, Fields: fields[:3]}
	object.Put(a, p, x)
	object.Read(a, p, 9)
	object.Place(a, p, 9, 1)
	object.Walk(a, p, 0, 0, 40)
	object.Same(x, x)
	if !slices.Equal(shapes, manyShapes()) || !slices.Equal(fields, []uint64{1, 2, 3, 4, 5}) {
		t.Errorf("the table became %q, the fields %v", shapes, fields)
	}
	fields[0] = 99
	if y, _ := object.Read(a, p, 9); !slices.Equal(y.Fields, []uint64{1, 2, 3}) {
		t.Errorf("the fields are kept: %v", y.Fields)
	}
}

// Rules: an answer shares no memory with the arena or with another answer.
func TestAnswersAreNew(t *testing.T) {
	p := planOf(1, minSpace, "pps")
	l := slices.Repeat([]uint64{6, 1, 2, 3, 4}, 2)
	a := laid(t, p, 5, l...)
	before := list(a)
	x, _ := object.Read(a, p, 5)
	y, _ := object.Read(a, p, 5)
	first, _ := object.Walk(a, p, 0, 0, 32)
	second, _ := object.Walk(a, p, 0, 0, 32)
	for i := range x.Fields[:cap(x.Fields)] {
		x.Fields[:cap(x.Fields)][i] = 99
	}
	for i := range first[:cap(first)] {
		first[:cap(first)][i] = 99
	}
	if !slices.Equal(y.Fields, []uint64{2, 3, 4}) || !slices.Equal(second, []int{5, 10}) || !slices.Equal(list(a), before) {
		t.Errorf("answers share memory: %v, %v, %v", y.Fields, second, list(a))
	}
	a.Store(7, 70)
	if !slices.Equal(y.Fields, []uint64{2, 3, 4}) {
		t.Errorf("an answer shares memory with its arena: %v", y.Fields)
	}
}

// P7.1 to P7.3: the document's examples.
func TestExamples(t *testing.T) {
	p := planOf(1, 32, "p", "ss")
	x := api.Object{At: 5, Head: api.Head{Shape: 1}, Fields: []uint64{4, 12}}
	a := nought(t, p)
	if errno := object.Put(a, p, x); errno != api.OK {
		t.Error("Put", errno)
	}
	if y, errno := object.Read(a, p, 5); !object.Same(x, y) || errno != api.OK {
		t.Error("Read(5)", y, errno)
	}
	if y, errno := object.Read(a, p, 6); !isZero(y) || errno != api.ErrHead {
		t.Error("Read(6)", y, errno)
	}
	if y, errno := object.Read(a, p, 4); !isZero(y) || errno != api.ErrRange {
		t.Error("Read(4)", y, errno)
	}
	if n, errno := object.Place(a, p, 5, 1); n != 8 || errno != api.OK {
		t.Error("Place(5, 1)", n, errno)
	}
	if n, errno := object.Place(a, p, 5, 2); n != 0 || errno != api.ErrField {
		t.Error("Place(5, 2)", n, errno)
	}
	if l, errno := object.Walk(a, p, 0, 0, 32); !slices.Equal(l, []int{5}) || errno != api.OK {
		t.Error("Walk(0, 0, 32)", l, errno)
	}
	if l, errno := object.Walk(a, p, 0, 1, 32); len(l) != 0 || errno != api.OK {
		t.Error("Walk(0, 1, 32)", l, errno)
	}
}
