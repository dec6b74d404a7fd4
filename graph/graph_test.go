package graph_test

import (
	"fmt"
	"math"
	"slices"
	"strconv"
	"strings"
	"testing"

	"lapidary/api"
	"lapidary/graph"
	"lapidary/op"
)

// The limits, as the document's table has them.
const (
	minSpace   = 32
	maxSpace   = 4096
	maxThreads = 8
	slotCount  = 6
	maxScalar  = int64(1)<<59 - 1
	minScalar  = -(int64(1) << 59)
)

func planOf(threads, space int, shapes ...api.Shape) api.Plan {
	return api.Plan{Threads: threads, Space: space, Shapes: shapes}
}

// manyShapes are as many shapes as a table has at most, of every number of fields.
func manyShapes() []api.Shape {
	return []api.Shape{
		"psp", "p", "ss", "", "", "spspspsp", "s", "pp", "pppppppp", "psps", "p", "sssss", "", "pspsps", "ppppppp", "ps",
	}
}

func fairPlans() []api.Plan {
	return []api.Plan{
		planOf(1, minSpace, ""), planOf(1, minSpace, "p"), planOf(1, 40, "s"), planOf(2, minSpace, "ps", ""), planOf(2, 47, "pp", "s", "sp"),
		planOf(3, 33, "ssssssss", "pppppppp"), planOf(maxThreads, maxSpace, manyShapes()...), planOf(maxThreads, 100, "psp"),
	}
}

func huge() []int {
	return []int{
		1 << 16, 1 << 24, 1 << 32, 1<<32 + 1, 1 << 61, 1 << 62, -1 << 16, -1 << 32, -1<<32 + 1, -1 << 62, math.MaxInt32, math.MinInt32,
		math.MaxInt, math.MaxInt - 1, math.MinInt, math.MinInt + 1,
	}
}

func wrongTables() [][]api.Shape {
	return [][]api.Shape{
		nil, {}, {"x"}, {"ps", "x"}, {"P"}, {"-"}, {"p s"}, {"ppppppppp"}, {"p", "\xff"}, {"é"},
		append(manyShapes(), ""), slices.Repeat([]api.Shape{"ps"}, 1000), {api.Shape(strings.Repeat("p", 65536))},
	}
}

func wrongPlans() []api.Plan {
	all := []api.Plan{{}}
	for _, n := range append(huge(), 0, -1, maxThreads+1) {
		all = append(all, planOf(n, 40, "ps"))
	}
	for _, n := range append(huge(), 0, 1, -1, minSpace-1, maxSpace+1) {
		all = append(all, planOf(1, n, "ps"))
	}
	for _, l := range wrongTables() {
		all = append(all, planOf(1, minSpace, l...), planOf(maxThreads, maxSpace, l...))
	}
	return all
}

// noGraphs are those that are as none.
func noGraphs() map[string]*graph.Graph {
	refused, _ := graph.New(api.Plan{})
	return map[string]*graph.Graph{"nil": nil, "zero": {}, "refused": refused, "copy of nil": refused.Copy(), "copy of zero": (&graph.Graph{}).Copy()}
}

func made(t *testing.T, p api.Plan) *graph.Graph {
	t.Helper()
	g, errno := graph.New(p)
	if g == nil || errno != 0 {
		t.Fatalf("New(%+v) = %v, %d", p, g, errno)
	}
	return g
}

func read(t *testing.T, s string) api.Op {
	t.Helper()
	x, errno := op.Read(s)
	if errno != 0 {
		t.Fatalf("%q is no operation's text", s)
	}
	return x
}

// outOf is the whole answer whose text that is.
func outOf(s string) api.Out {
	number, isError := strings.CutPrefix(s, "error ")
	n, _ := strconv.ParseInt(number, 10, 64)
	if isError {
		return api.Out{Err: api.Errno(n)}
	}
	return api.Out{Is: s == "yes" || s == "object", Value: n}
}

// runs does operations, one behind the other: 'put 0 0 1 ok', behind a thread's number and a colon, or of the thread 0.
func runs(t *testing.T, g *graph.Graph, rows ...string) {
	t.Helper()
	for _, row := range rows {
		head, rest, isNamed := strings.Cut(row, ": ")
		thread := 0
		if isNamed {
			thread, _ = strconv.Atoi(head)
		} else {
			rest = row
		}
		at := strings.LastIndexByte(rest, ' ')
		if errorAt := strings.Index(rest, " error "); errorAt >= 0 {
			at = errorAt
		}
		does(t, g, thread, read(t, rest[:at]), outOf(rest[at+1:]))
	}
}

func does(t *testing.T, g *graph.Graph, thread int, x api.Op, want api.Out) {
	t.Helper()
	if o, errno := g.Do(thread, x); o != want || errno != 0 {
		t.Errorf("Do(%d, %+v) = %+v, %d; not %+v", thread, x, o, errno, want)
	}
}

// told is a view's text, in which nil lists and empty ones are the same.
func told(v api.View) string { return fmt.Sprint(v.Roots, v.Nodes) }

// state is all that can be asked of a graph.
func state(g *graph.Graph) string { return fmt.Sprint(told(g.View()), g.Words(), g.Made()) }

// shows asks for what can be reached; a node is its shape and its fields: {0 [1 7]}.
func shows(t *testing.T, g *graph.Graph, want string, words, count int) {
	t.Helper()
	if got := told(g.View()); got != want {
		t.Errorf("View: %s; not %s", got, want)
	}
	if g.Words() != words || g.Made() != count {
		t.Errorf("Words: %d, Made: %d; not %d, %d", g.Words(), g.Made(), words, count)
	}
}

// P9.1, P9.2: a graph as at first: the slot 0 of each thread holds the one object, whose fields hold nothing and 0.
func TestNew(t *testing.T) {
	for _, p := range fairPlans() {
		g := made(t, p)
		roots := slices.Repeat([]string{"[1 0 0 0 0 0]"}, p.Threads)
		fields := slices.Repeat([]string{"0"}, len(p.Shapes[0]))
		want := fmt.Sprintf("[%s] [{0 [%s]}]", strings.Join(roots, " "), strings.Join(fields, " "))
		shows(t, g, want, 2+len(p.Shapes[0]), 1)
		for thread := range p.Threads {
			for slot := 1; slot < slotCount; slot++ {
				does(t, g, thread, api.Op{Kind: 8, A: slot, B: 1}, api.Out{Is: true})
				does(t, g, thread, api.Op{Kind: 8, A: 0, B: slot}, api.Out{})
			}
		}
	}
}

// P9.1: a new graph's fields, each by itself.
func TestFieldsAtFirst(t *testing.T) {
	for _, p := range fairPlans() {
		g := made(t, p)
		for number, s := range p.Shapes {
			does(t, g, 0, api.Op{Kind: 1, A: 3, Shape: number}, api.Out{})
			for field, letter := range s {
				for _, slot := range []int{0, 3} {
					if slot == 0 && number > 0 {
						continue
					}
					if letter == 's' {
						does(t, g, 0, api.Op{Kind: 5, A: slot, Field: field}, api.Out{})
						does(t, g, 0, api.Op{Kind: 2, A: slot, Field: field, B: 4}, api.Out{Err: 132})
					} else {
						does(t, g, 0, api.Op{Kind: 2, A: slot, Field: field, B: 4}, api.Out{})
						does(t, g, 0, api.Op{Kind: 5, A: slot, Field: field}, api.Out{Err: 132})
					}
				}
			}
		}
	}
}

// P9.1: plans that may not be.
func TestNewRefuses(t *testing.T) {
	for _, p := range wrongPlans() {
		if g, errno := graph.New(p); g != nil || errno != 2 {
			t.Errorf("New(%d threads, %d words, %.60q) = %v, %d; not 2", p.Threads, p.Space, p.Shapes, g, errno)
		}
	}
}

// P9.1: each of the eleven kinds, done and answered as the table says.
func TestKinds(t *testing.T) {
	g := made(t, planOf(1, minSpace, "ps", "", "p"))
	runs(t, g, "alloc 1 1 ok")
	shows(t, g, "[[1 2 0 0 0 0]] [{0 [0 0]} {1 []}]", 6, 2)
	runs(t, g, "put 0 0 1 ok")
	shows(t, g, "[[1 2 0 0 0 0]] [{0 [2 0]} {1 []}]", 6, 2)
	runs(t, g, "get 0 0 5 object")
	shows(t, g, "[[1 2 0 0 0 2]] [{0 [2 0]} {1 []}]", 6, 2)
	runs(t, g, "eq 1 5 yes", "eq 5 1 yes", "eq 0 1 no", "eq 0 2 no", "eq 2 0 no", "eq 2 3 yes", "eq 2 2 yes", "eq 0 0 yes")
	runs(t, g, "cas 0 0 2 0 no", "cas 0 0 0 2 no")
	shows(t, g, "[[1 2 0 0 0 2]] [{0 [2 0]} {1 []}]", 6, 2)
	runs(t, g, "cas 0 0 5 0 yes")
	shows(t, g, "[[1 2 0 0 0 2]] [{0 [1 0]} {1 []}]", 6, 2)
	runs(t, g, "puti 0 1 -7 ok", "geti 0 1 -7", "casi 0 1 7 8 no", "geti 0 1 -7", "casi 0 1 -7 8 yes", "geti 0 1 8")
	shows(t, g, "[[1 2 0 0 0 2]] [{0 [1 8]} {1 []}]", 6, 2)
	runs(t, g, "move 3 0 ok")
	shows(t, g, "[[1 2 0 1 0 2]] [{0 [1 8]} {1 []}]", 6, 2)
	runs(t, g, "move 0 4 ok")
	shows(t, g, "[[0 1 0 2 0 1]] [{1 []} {0 [2 8]}]", 6, 2)
	runs(t, g, "drop 3 ok")
	shows(t, g, "[[0 1 0 0 0 1]] [{1 []}]", 2, 2)
	runs(t, g, "collect ok")
	shows(t, g, "[[0 1 0 0 0 1]] [{1 []}]", 2, 2)
	runs(t, g, "drop 1 ok", "drop 5 ok", "drop 5 ok", "eq 1 5 yes")
	shows(t, g, "[[0 0 0 0 0 0]] []", 0, 2)
	runs(t, g, "alloc 2 2 ok", "get 2 0 2 nothing")
	shows(t, g, "[[0 0 0 0 0 0]] []", 0, 3)
}

// P9.1: a Get, an Alloc, a Put, a Move, a Drop and a Cas that speak of one slot alone.
func TestOneSlotAlone(t *testing.T) {
	g := made(t, planOf(1, minSpace, "ps", "p"))
	runs(t, g, "put 0 0 0 ok", "get 0 0 0 object", "puti 0 1 3 ok", "cas 0 0 0 0 yes", "move 0 0 ok", "eq 0 0 yes")
	shows(t, g, "[[1 0 0 0 0 0]] [{0 [1 3]}]", 4, 1)
	runs(t, g, "move 1 0 ok", "alloc 0 1 ok", "eq 0 1 no", "put 0 0 1 ok", "get 0 0 0 object", "eq 0 1 yes", "geti 0 1 3")
	shows(t, g, "[[1 1 0 0 0 0]] [{0 [1 3]}]", 4, 2)
	runs(t, g, "cas 0 0 5 4 no", "cas 0 0 0 4 yes", "get 0 0 0 nothing", "get 0 0 0 error 183", "drop 1 ok")
	shows(t, g, "[[0 0 0 0 0 0]] []", 0, 2)
}

// P9.1: a Cas whose slots hold nothing: the one that it asks for, the one that it lays, both.
func TestCasOfNothing(t *testing.T) {
	g := made(t, planOf(1, minSpace, "p"))
	runs(t, g, "cas 0 0 1 2 yes", "get 0 0 3 nothing", "cas 0 0 1 0 yes", "cas 0 0 1 2 no", "get 0 0 3 object", "eq 3 0 yes")
	runs(t, g, "cas 0 0 3 1 yes", "get 0 0 3 nothing", "cas 0 0 0 1 no", "cas 1 0 0 0 error 183")
	shows(t, g, "[[1 0 0 0 0 0]] [{0 [0]}]", 3, 1)
}

// P9.1: each of the slots in each place, and one beyond.
func TestSlots(t *testing.T) {
	for slot := range slotCount {
		g := made(t, planOf(1, minSpace, "p", "s"))
		s := fmt.Sprint(slot)
		runs(t, g, "move "+s+" 0 ok", "eq "+s+" 0 yes", "put "+s+" 0 "+s+" ok", "get 0 0 "+s+" object", "eq 0 "+s+" yes", "cas 0 0 "+s+" "+s+" yes")
		roots := slices.Repeat([]int{0}, slotCount)
		roots[0], roots[slot] = 1, 1
		shows(t, g, fmt.Sprintf("[%v] [{0 [1]}]", roots), 3, 1)
		runs(t, g, "alloc "+s+" 1 ok", "puti "+s+" 0 9 ok", "geti "+s+" 0 9", "casi "+s+" 0 9 8 yes", "geti "+s+" 0 8", "drop "+s+" ok", "geti "+s+" 0 error 183")
	}
	g := made(t, planOf(1, minSpace, "p", "s"))
	before := state(g)
	for _, slot := range append(huge(), slotCount, slotCount+1, -1, -slotCount) {
		for _, x := range []api.Op{
			{Kind: 1, A: slot}, {Kind: 2, A: slot}, {Kind: 2, B: slot}, {Kind: 3, A: slot}, {Kind: 3, B: slot}, {Kind: 4, A: slot}, {Kind: 4, B: slot},
			{Kind: 4, C: slot}, {Kind: 5, A: slot}, {Kind: 6, A: slot}, {Kind: 7, A: slot}, {Kind: 8, A: slot}, {Kind: 8, B: slot}, {Kind: 9, A: slot},
			{Kind: 9, B: slot}, {Kind: 10, A: slot},
		} {
			does(t, g, 0, x, api.Out{Err: 181})
		}
	}
	if state(g) != before {
		t.Errorf("what was refused changed it: %s", state(g))
	}
}

// P9.1: each shape of each table, and one beyond.
func TestShapes(t *testing.T) {
	for _, p := range fairPlans() {
		g := made(t, p)
		words, count := 2+len(p.Shapes[0]), 1
		for number, s := range p.Shapes {
			does(t, g, p.Threads-1, api.Op{Kind: 1, A: 5, Shape: number}, api.Out{})
			count++
			v := g.View()
			want := api.Node{Shape: number, Fields: make([]int64, len(s))}
			if len(v.Nodes) != 2 || fmt.Sprint(v.Nodes[1]) != fmt.Sprint(want) || g.Words() != words+2+len(s) || g.Made() != count {
				t.Errorf("an object of the shape %d of %.60q: %v, %d words, %d made", number, p.Shapes, v.Nodes, g.Words(), g.Made())
			}
		}
		before := state(g)
		for _, number := range append(huge(), len(p.Shapes), len(p.Shapes)+1, -1, 16, 17) {
			does(t, g, 0, api.Op{Kind: 1, A: 5, Shape: number}, api.Out{Err: 130})
		}
		if state(g) != before {
			t.Errorf("what was refused changed it: %s", state(g))
		}
	}
}

// fieldOps are operations of a field, of slot A's object: of a pointer field, of a scalar one.
func fieldOps(slot, field int) (pointers, scalars []api.Op) {
	pointers = []api.Op{{Kind: 2, A: slot, Field: field, B: 5}, {Kind: 3, A: slot, Field: field}, {Kind: 4, A: slot, Field: field, B: 5, C: slot}}
	scalars = []api.Op{{Kind: 5, A: slot, Field: field}, {Kind: 6, A: slot, Field: field, X: 1}, {Kind: 7, A: slot, Field: field, Y: 1}}
	return pointers, scalars
}

// P9.1: the first and the last field of each shape, one beyond, far ones, and fields of the other kind.
func TestFields(t *testing.T) {
	for _, p := range fairPlans() {
		g := made(t, p)
		for number, s := range p.Shapes {
			does(t, g, 0, api.Op{Kind: 1, A: 1, Shape: number}, api.Out{})
			for field, letter := range s {
				pointers, scalars := fieldOps(1, field)
				wrong, fair := pointers, scalars
				if letter == 'p' {
					wrong, fair = scalars, pointers
				}
				before := state(g)
				for _, x := range wrong {
					does(t, g, 0, x, api.Out{Err: 132})
				}
				if state(g) != before {
					t.Errorf("what was refused changed it: %s", state(g))
				}
				for _, x := range fair {
					if o, errno := g.Do(0, x); o.Err != 0 || errno != 0 {
						t.Errorf("Do(0, %+v) = %+v, %d: the field is of that kind", x, o, errno)
					}
				}
			}
			before := state(g)
			for _, field := range append(huge(), len(s), len(s)+1, -1, -len(s)-1, 8, 9) {
				pointers, scalars := fieldOps(1, field)
				for _, x := range append(pointers, scalars...) {
					does(t, g, 0, x, api.Out{Err: 131})
				}
			}
			if state(g) != before {
				t.Errorf("what was refused changed it: %s", state(g))
			}
		}
	}
}

// P9.1: what one field holds, no other one does, nor the same one of another object.
func TestFieldsAreApart(t *testing.T) {
	g := made(t, planOf(1, minSpace, "spspspsp"))
	runs(t, g, "alloc 1 0 ok", "puti 0 0 5 ok", "put 0 1 0 ok", "puti 0 6 -6 ok", "put 0 7 1 ok", "puti 1 2 7 ok", "put 1 3 0 ok")
	shows(t, g, "[[1 2 0 0 0 0]] [{0 [5 1 0 0 0 0 -6 2]} {0 [0 0 7 1 0 0 0 0]}]", 20, 2)
	runs(t, g, "puti 0 6 0 ok", "put 0 7 5 ok", "casi 1 2 7 1 yes", "cas 1 3 0 1 yes")
	shows(t, g, "[[1 2 0 0 0 0]] [{0 [5 1 0 0 0 0 0 0]} {0 [0 0 1 2 0 0 0 0]}]", 20, 2)
}

// P9.1: the greatest and the least scalar, and one beyond, in both places.
func TestScalars(t *testing.T) {
	g := made(t, planOf(1, minSpace, "s"))
	stood := int64(0)
	for _, n := range []int64{maxScalar, minScalar, maxScalar - 1, minScalar + 1, 1, -1, 0, 1 << 32, -1 << 32} {
		does(t, g, 0, api.Op{Kind: 7, X: n, Y: n}, api.Out{Is: n == stood})
		does(t, g, 0, api.Op{Kind: 7, X: stood, Y: n}, api.Out{Is: true})
		does(t, g, 0, api.Op{Kind: 5}, api.Out{Value: n})
		does(t, g, 0, api.Op{Kind: 6, X: -n - 1}, api.Out{})
		does(t, g, 0, api.Op{Kind: 5}, api.Out{Value: -n - 1})
		stood = -n - 1
		shows(t, g, fmt.Sprintf("[[1 0 0 0 0 0]] [{0 [%d]}]", stood), 3, 1)
	}
	before := state(g)
	for _, n := range []int64{maxScalar + 1, minScalar - 1, math.MaxInt64, math.MinInt64, 1 << 60} {
		does(t, g, 0, api.Op{Kind: 6, X: n}, api.Out{Err: 182})
		does(t, g, 0, api.Op{Kind: 7, X: n}, api.Out{Err: 182})
		does(t, g, 0, api.Op{Kind: 7, X: stood, Y: n}, api.Out{Err: 182})
	}
	if state(g) != before {
		t.Errorf("what was refused changed it: %s", state(g))
	}
}

// P9.1: the first and the last thread, whose slots are their own; none beyond, whatever is asked.
func TestThreads(t *testing.T) {
	for threads := 1; threads <= maxThreads; threads++ {
		g := made(t, planOf(threads, minSpace, "ps", "p"))
		for thread := range threads {
			does(t, g, thread, api.Op{Kind: 10}, api.Out{})
			does(t, g, thread, api.Op{Kind: 1, A: thread % slotCount, Shape: 1}, api.Out{})
		}
		for thread, roots := range g.View().Roots {
			want := make([]int, slotCount)
			want[thread%slotCount] = thread + 1
			if !slices.Equal(roots, want) {
				t.Errorf("%d threads: the roots of %d are %v; not %v", threads, thread, roots, want)
			}
		}
		before := state(g)
		for _, thread := range append(huge(), threads, threads+1, -1, -threads) {
			for _, x := range []api.Op{{}, {Kind: 1, A: 1}, {Kind: 2, B: 3}, {Kind: 6, Field: 1, X: 5}, {Kind: 10}, {Kind: 11}, {Kind: 1, A: 6}, {Kind: 3, A: 5}, {Kind: 12}} {
				if o, errno := g.Do(thread, x); o != (api.Out{}) || errno != 4 {
					t.Errorf("%d threads: Do(%d, %+v) = %+v, %d; not 4", threads, thread, x, o, errno)
				}
			}
		}
		if state(g) != before {
			t.Errorf("what was refused changed it: %s", state(g))
		}
	}
}

// P9.1, P9.2: threads' slots share objects: what one thread writes another one reads.
func TestThreadsShareObjects(t *testing.T) {
	g := made(t, planOf(3, minSpace, "ps", "s"))
	runs(t, g, "1: puti 0 1 7 ok", "0: geti 0 1 7", "2: casi 0 1 7 8 yes", "1: casi 0 1 7 9 no", "1: geti 0 1 8")
	runs(t, g, "2: alloc 5 1 ok", "2: puti 5 0 44 ok", "2: put 0 0 5 ok", "0: get 0 0 3 object", "0: geti 3 0 44", "1: geti 5 0 error 183")
	shows(t, g, "[[1 0 0 2 0 0] [1 0 0 0 0 0] [1 0 0 0 0 2]] [{0 [2 8]} {1 [44]}]", 7, 2)
	runs(t, g, "0: drop 0 ok", "0: geti 3 0 44", "1: cas 0 0 5 0 no", "2: cas 0 0 5 0 yes", "1: get 0 0 4 object", "1: eq 4 0 yes")
	shows(t, g, "[[0 0 0 1 0 0] [2 0 0 0 2 0] [2 0 0 0 0 1]] [{1 [44]} {0 [2 8]}]", 7, 2)
	runs(t, g, "1: drop 0 ok", "1: drop 4 ok", "2: drop 0 ok", "2: puti 5 0 45 ok", "0: geti 3 0 45")
	shows(t, g, "[[0 0 0 1 0 0] [0 0 0 0 0 0] [0 0 0 0 0 1]] [{1 [45]}]", 3, 2)
}

// P9.1: operations that layer 8 refuses, each kind of it; nothing is done.
func TestRefusedOperations(t *testing.T) {
	g := made(t, planOf(2, minSpace, "ps", "p"))
	runs(t, g, "alloc 1 1 ok", "put 0 0 1 ok", "put 1 0 0 ok", "puti 0 1 5 ok")
	before := state(g)
	for _, kind := range []api.OpKind{0, -1, 12, 13, 256, 257, 1<<32 + 1, math.MaxInt, math.MinInt} {
		does(t, g, 0, api.Op{Kind: kind}, api.Out{Err: 180})
		does(t, g, 1, api.Op{Kind: kind, A: 1, Field: 1, X: 5}, api.Out{Err: 180})
	}
	for _, x := range []api.Op{ // each with one number that its kind does not name
		{Kind: 1, A: 2, B: 1}, {Kind: 1, A: 2, C: 1}, {Kind: 1, A: 2, Field: 1}, {Kind: 1, A: 2, X: 1}, {Kind: 1, A: 2, Y: 1},
		{Kind: 2, B: 2, C: 1}, {Kind: 2, B: 2, Shape: 1}, {Kind: 2, B: 2, X: 1}, {Kind: 2, B: 2, Y: -1},
		{Kind: 3, B: 2, C: 1}, {Kind: 3, B: 2, Shape: 1}, {Kind: 3, B: 2, X: 1}, {Kind: 3, B: 2, Y: 1},
		{Kind: 4, B: 1, C: 2, Shape: 1}, {Kind: 4, B: 1, C: 2, X: 1}, {Kind: 4, B: 1, C: 2, Y: 1},
		{Kind: 5, Field: 1, B: 1}, {Kind: 5, Field: 1, C: 1}, {Kind: 5, Field: 1, Shape: 1}, {Kind: 5, Field: 1, X: 1}, {Kind: 5, Field: 1, Y: 1},
		{Kind: 6, Field: 1, B: 1}, {Kind: 6, Field: 1, C: 1}, {Kind: 6, Field: 1, Shape: 1}, {Kind: 6, Field: 1, Y: 1},
		{Kind: 7, Field: 1, X: 5, B: 1}, {Kind: 7, Field: 1, X: 5, C: 1}, {Kind: 7, Field: 1, X: 5, Shape: 1},
		{Kind: 8, C: 1}, {Kind: 8, Field: 1}, {Kind: 8, Shape: 1}, {Kind: 8, X: 1}, {Kind: 8, Y: 1},
		{Kind: 9, A: 2, C: 1}, {Kind: 9, A: 2, Field: 1}, {Kind: 9, A: 2, Shape: 1}, {Kind: 9, A: 2, X: 1}, {Kind: 9, A: 2, Y: 1},
		{Kind: 10, B: 1}, {Kind: 10, C: 1}, {Kind: 10, Field: 1}, {Kind: 10, Shape: 1}, {Kind: 10, X: 1}, {Kind: 10, Y: 1},
		{Kind: 11, A: 1}, {Kind: 11, B: 1}, {Kind: 11, C: 1}, {Kind: 11, Field: 1}, {Kind: 11, Shape: 1}, {Kind: 11, X: 1}, {Kind: 11, Y: 1},
	} {
		does(t, g, 0, x, api.Out{Err: 180})
	}
	if state(g) != before {
		t.Errorf("what was refused changed it: %s; not %s", state(g), before)
	}
}

// P9.1: of several things that are wrong at once the first one of the document's order is answered.
func TestOrderOfErrors(t *testing.T) {
	g := made(t, planOf(1, minSpace, "ps", ""))
	runs(t, g, "alloc 1 1 ok")
	before := state(g)
	for _, row := range []struct {
		x    api.Op
		want api.Errno
	}{
		{api.Op{Kind: 2, A: 6, Field: 9, Shape: 1}, 180}, // not named, no slot, no field
		{api.Op{Kind: 6, A: 2, X: 1 << 60, B: 1}, 180},   // not named, no scalar, nothing held
		{api.Op{Kind: 2, A: 2, Field: 9, B: 6}, 181},     // no slot, nothing held, no field
		{api.Op{Kind: 4, A: 2, Field: 1, C: -1}, 181},    // no slot, nothing held, the other kind
		{api.Op{Kind: 7, A: 6, Field: 9, X: 1 << 60}, 181},
		{api.Op{Kind: 1, A: 6, Shape: 2}, 181},
		{api.Op{Kind: 1, A: 5, Shape: 2}, 130},
		{api.Op{Kind: 6, A: 2, Field: 9, X: 1 << 60}, 182}, // no scalar, nothing held, no field
		{api.Op{Kind: 7, A: 0, Field: 0, Y: 1 << 60}, 182}, // no scalar, the other kind
		{api.Op{Kind: 7, A: 0, Field: 2, X: 1 << 60}, 182}, // no scalar, no field
		{api.Op{Kind: 2, A: 2, Field: 9, B: 5}, 183},       // nothing held, no field
		{api.Op{Kind: 2, A: 2, Field: -1}, 183},
		{api.Op{Kind: 3, A: 5, Field: 1}, 183}, // nothing held, a field of the other kind of all that there are
		{api.Op{Kind: 4, A: 2, Field: 1, B: 3, C: 4}, 183},
		{api.Op{Kind: 5, A: 2, Field: 0}, 183},
		{api.Op{Kind: 6, A: 2, Field: math.MaxInt}, 183},
		{api.Op{Kind: 7, A: 2, Field: math.MinInt}, 183},
		{api.Op{Kind: 2, A: 1, Field: 0}, 131}, // the object has no fields
		{api.Op{Kind: 5, A: 1, Field: 1}, 131},
		{api.Op{Kind: 5, A: 0, Field: 2}, 131},
		{api.Op{Kind: 3, A: 0, Field: -1}, 131},
		{api.Op{Kind: 5, A: 0, Field: 0}, 132},
		{api.Op{Kind: 2, A: 0, Field: 1}, 132},
	} {
		does(t, g, 0, row.x, api.Out{Err: row.want})
		if o, errno := g.Do(1, row.x); o != (api.Out{}) || errno != 4 {
			t.Errorf("Do(1, %+v) = %+v, %d; not 4", row.x, o, errno)
		}
	}
	if state(g) != before {
		t.Errorf("what was refused changed it: %s; not %s", state(g), before)
	}
}

// P9.1, P9.2: a field's operation of a slot that holds nothing, of each kind.
func TestNothingHeld(t *testing.T) {
	for slot := 1; slot < slotCount; slot++ {
		g := made(t, planOf(1, minSpace, "ps"))
		before := state(g)
		for field := range 3 {
			pointers, scalars := fieldOps(slot, field)
			for _, x := range append(pointers, scalars...) {
				does(t, g, 0, x, api.Out{Err: 183})
			}
		}
		if state(g) != before {
			t.Errorf("what was refused changed it: %s", state(g))
		}
	}
}

// P9.2: nodes are numbered by all slots ahead of any field, then node by node by rising fields, not by depth.
func TestNumbers(t *testing.T) {
	g := made(t, planOf(2, minSpace, "pp", "s"))
	leaf := func(n int, row string) {
		runs(t, g, "alloc 5 1 ok", fmt.Sprintf("puti 5 0 %d ok", n), row, "drop 5 ok")
	}
	runs(t, g, "alloc 2 0 ok", "alloc 1 0 ok", "put 0 1 2 ok", "put 0 0 1 ok", "put 2 0 1 ok")
	leaf(10, "put 1 1 5 ok")
	leaf(20, "put 2 1 5 ok")
	leaf(30, "put 1 0 5 ok")
	shows(t, g, "[[1 2 3 0 0 0] [1 0 0 0 0 0]] [{0 [2 3]} {0 [4 5]} {0 [2 6]} {1 [30]} {1 [10]} {1 [20]}]", 4*3+3*3, 6)
	runs(t, g, "drop 1 ok")
	shows(t, g, "[[1 0 2 0 0 0] [1 0 0 0 0 0]] [{0 [3 2]} {0 [3 4]} {0 [5 6]} {1 [20]} {1 [30]} {1 [10]}]", 4*3+3*3, 6)
	runs(t, g, "drop 2 ok")
	shows(t, g, "[[1 0 0 0 0 0] [1 0 0 0 0 0]] [{0 [2 3]} {0 [4 5]} {0 [2 6]} {1 [30]} {1 [10]} {1 [20]}]", 4*3+3*3, 6)
	runs(t, g, "1: get 0 1 5 object", "1: get 5 1 4 object", "drop 0 ok", "1: drop 0 ok")
	shows(t, g, "[[0 0 0 0 0 0] [0 0 0 0 1 2]] [{1 [20]} {0 [3 1]} {0 [4 5]} {1 [30]} {1 [10]}]", 4*2+3*3, 6)
}

// P9.2: scalar fields that look like nodes' numbers lead to none; pointer fields behind and ahead of them do.
func TestScalarsAreNoNumbers(t *testing.T) {
	g := made(t, planOf(1, minSpace, "sps", "p"))
	runs(t, g, "alloc 1 1 ok", "put 0 1 1 ok", "drop 1 ok", "puti 0 0 3 ok", "puti 0 2 1 ok")
	shows(t, g, "[[1 0 0 0 0 0]] [{0 [3 2 1]} {1 [0]}]", 8, 2)
	runs(t, g, "put 0 1 5 ok", "puti 0 0 2 ok")
	shows(t, g, "[[1 0 0 0 0 0]] [{0 [2 0 1]}]", 5, 2)
}

// P9.2: objects that hold one another in rings, and one that holds itself; each is one node, and all of a ring go together.
func TestRings(t *testing.T) {
	g := made(t, planOf(1, minSpace, "pp"))
	runs(t, g, "put 0 0 0 ok", "put 0 1 0 ok")
	shows(t, g, "[[1 0 0 0 0 0]] [{0 [1 1]}]", 4, 1)
	runs(t, g, "alloc 1 0 ok", "alloc 2 0 ok", "put 0 0 1 ok", "put 1 0 2 ok", "put 2 0 0 ok", "put 2 1 2 ok", "drop 1 ok", "drop 2 ok")
	shows(t, g, "[[1 0 0 0 0 0]] [{0 [2 1]} {0 [3 0]} {0 [1 3]}]", 12, 3)
	runs(t, g, "get 0 0 5 object", "get 5 0 5 object", "get 5 0 5 object", "eq 0 5 yes", "drop 5 ok")
	runs(t, g, "get 0 0 1 object", "put 0 0 5 ok")
	shows(t, g, "[[1 2 0 0 0 0]] [{0 [0 1]} {0 [3 0]} {0 [1 3]}]", 12, 3)
	runs(t, g, "drop 0 ok")
	shows(t, g, "[[0 1 0 0 0 0]] [{0 [2 0]} {0 [3 2]} {0 [0 3]}]", 12, 3)
	runs(t, g, "drop 1 ok")
	shows(t, g, "[[0 0 0 0 0 0]] []", 0, 3)
}

// P9.2: an object that no slot leads to any more is gone, and what it alone held; what another one holds stays.
func TestWhatIsGone(t *testing.T) {
	g := made(t, planOf(2, minSpace, "pps", "s"))
	runs(t, g, "alloc 1 0 ok", "alloc 2 1 ok", "alloc 3 1 ok", "puti 2 0 2 ok", "puti 3 0 3 ok", "put 1 0 2 ok", "put 1 1 3 ok", "put 0 0 3 ok", "put 0 1 1 ok")
	runs(t, g, "drop 1 ok", "drop 2 ok", "drop 3 ok")
	shows(t, g, "[[1 0 0 0 0 0] [1 0 0 0 0 0]] [{0 [2 3 0]} {1 [3]} {0 [4 2 0]} {1 [2]}]", 5+3+5+3, 4)
	runs(t, g, "put 0 1 5 ok")
	shows(t, g, "[[1 0 0 0 0 0] [1 0 0 0 0 0]] [{0 [2 0 0]} {1 [3]}]", 5+3, 4)
	runs(t, g, "drop 0 ok")
	shows(t, g, "[[0 0 0 0 0 0] [1 0 0 0 0 0]] [{0 [2 0 0]} {1 [3]}]", 5+3, 4)
	runs(t, g, "1: get 0 0 0 object")
	shows(t, g, "[[0 0 0 0 0 0] [1 0 0 0 0 0]] [{1 [3]}]", 3, 4)
	runs(t, g, "1: alloc 0 1 ok")
	shows(t, g, "[[0 0 0 0 0 0] [1 0 0 0 0 0]] [{1 [0]}]", 3, 5)
}

// P9.2: a chain far longer than a space could hold is gone over; how many objects there were is no bound.
func TestLongChain(t *testing.T) {
	const links = 20000
	g := made(t, planOf(1, minSpace, "p"))
	for range links {
		does(t, g, 0, api.Op{Kind: 9, A: 1}, api.Out{})
		does(t, g, 0, api.Op{Kind: 1}, api.Out{})
		does(t, g, 0, api.Op{Kind: 3, B: 1}, api.Out{})
	}
	if v := g.View(); len(v.Nodes) != links+1 || v.Nodes[links].Fields[0] != 0 || v.Nodes[links-1].Fields[0] != links+1 {
		t.Errorf("a view of %d nodes", len(v.Nodes))
	}
	if g.Words() != 3*(links+1) || g.Made() != links+1 || !graph.Same(g, g.Copy()) {
		t.Errorf("Words: %d, Made: %d", g.Words(), g.Made())
	}
	runs(t, g, "drop 1 ok", "drop 0 ok")
	shows(t, g, "[[0 0 0 0 0 0]] []", 0, links+1)
}

// P9.1 to P9.3: of no graph nothing is told, and nothing done.
func TestNoGraph(t *testing.T) {
	g := made(t, planOf(1, minSpace, "p"))
	for kind, none := range noGraphs() {
		for _, x := range []api.Op{{}, {Kind: 1}, {Kind: 11}, {Kind: 12, A: -1}, {Kind: 2, A: 6}} {
			for _, thread := range append(huge(), 0, 1, -1) {
				if o, errno := none.Do(thread, x); o != (api.Out{}) || errno != 1 {
					t.Errorf("%s: Do(%d, %+v) = %+v, %d; not 1", kind, thread, x, o, errno)
				}
			}
		}
		if v := none.View(); len(v.Roots) != 0 || len(v.Nodes) != 0 {
			t.Errorf("%s: View() = %v", kind, v)
		}
		if none.Words() != 0 || none.Made() != 0 || none.Copy() != nil {
			t.Errorf("%s: Words: %d, Made: %d, Copy: %v", kind, none.Words(), none.Made(), none.Copy())
		}
		for other, also := range noGraphs() {
			if !graph.Same(none, also) {
				t.Errorf("%s and %s are not the same", kind, other)
			}
		}
		if graph.Same(none, g) || graph.Same(g, none) {
			t.Errorf("%s is the same as one", kind)
		}
	}
	runs(t, g, "drop 0 ok")
	if graph.Same(nil, g) || graph.Same(g, nil) {
		t.Error("nil is the same as one of which nothing can be reached")
	}
}

// P9.3: a copy is the same, its objects shared and in rings as the first one's are; each goes on apart.
func TestCopy(t *testing.T) {
	g := made(t, planOf(2, minSpace, "pps", "p"))
	runs(t, g, "puti 0 2 5 ok", "alloc 1 1 ok", "alloc 2 1 ok", "put 0 0 1 ok", "put 0 1 2 ok", "put 1 0 0 ok", "put 2 0 2 ok", "1: move 4 0 ok", "drop 2 ok")
	const first = "[[1 2 0 0 0 0] [1 0 0 0 1 0]] [{0 [2 3 5]} {1 [1]} {1 [3]}]"
	shows(t, g, first, 11, 3)
	h := g.Copy()
	shows(t, h, first, 11, 3)
	if h == g || !graph.Same(g, h) || !graph.Same(h, g) {
		t.Error("the copy is not another one that is the same")
	}
	runs(t, h, "puti 0 2 6 ok", "put 1 0 1 ok", "alloc 5 0 ok", "1: drop 0 ok", "1: puti 4 2 7 ok", "geti 0 2 7")
	shows(t, g, first, 11, 3)
	const second = "[[1 2 0 0 0 3] [0 0 0 0 1 0]] [{0 [2 4 7]} {1 [2]} {0 [0 0 0]} {1 [4]}]"
	shows(t, h, second, 16, 4)
	if graph.Same(g, h) {
		t.Error("they are the same still")
	}
	k := h.Copy()
	runs(t, g, "drop 0 ok", "drop 1 ok", "1: drop 0 ok", "1: geti 4 2 5", "1: drop 4 ok")
	shows(t, g, "[[0 0 0 0 0 0] [0 0 0 0 0 0]] []", 0, 3)
	shows(t, h, second, 16, 4)
	runs(t, h, "eq 0 1 no", "get 1 0 0 object", "eq 0 1 yes", "1: get 4 1 5 object", "1: get 5 0 4 object", "1: eq 4 5 yes", "alloc 0 2 error 130")
	shows(t, k, second, 16, 4)
	runs(t, k, "alloc 0 1 ok")
	if g.Made() != 3 || h.Made() != 4 || k.Made() != 5 {
		t.Errorf("Made: %d, %d, %d", g.Made(), h.Made(), k.Made())
	}
}

// P9.3: a copy has its own plan's bounds: threads, shapes and fields.
func TestCopyOfEachPlan(t *testing.T) {
	for _, p := range fairPlans() {
		g := made(t, p).Copy()
		if !graph.Same(g, made(t, p)) || state(g) != state(made(t, p)) {
			t.Errorf("a copy at first is %s", state(g))
		}
		does(t, g, p.Threads-1, api.Op{Kind: 1, Shape: len(p.Shapes) - 1}, api.Out{})
		does(t, g, p.Threads-1, api.Op{Kind: 1, Shape: len(p.Shapes)}, api.Out{Err: 130})
		does(t, g, 0, api.Op{Kind: 2, Field: len(p.Shapes[0])}, api.Out{Err: 131})
		if _, errno := g.Do(p.Threads, api.Op{Kind: 11}); errno != 4 {
			t.Errorf("Do(%d, collect): %d; not 4", p.Threads, errno)
		}
	}
}

// P9.3: graphs of the same operations and of different plans are not the same, though their views are.
func TestSameAsksThePlan(t *testing.T) {
	plans := []api.Plan{
		planOf(2, 40, "ps", "p"), planOf(2, 41, "ps", "p"), planOf(2, 40, "ps", "s"), planOf(2, 40, "ps"), planOf(2, 40, "ps", "p", "p"),
		planOf(2, 40, "ps", ""), planOf(2, 40, "pp", "p"), planOf(3, 40, "ps", "p"), planOf(1, 40, "ps", "p"), planOf(2, maxSpace, "ps", "p"),
	}
	for i, p := range plans {
		for j, q := range plans {
			g, h := made(t, p), made(t, q)
			for _, k := range []*graph.Graph{g, h} {
				runs(t, k, "put 0 0 0 ok", "move 3 0 ok")
			}
			if graph.Same(g, h) != (i == j) {
				t.Errorf("Same of %+v and %+v is %v", p, q, i != j)
			}
		}
	}
}

// P9.3: Same asks what can be reached: how it came about, how many were made, and what is gone do not matter.
func TestSameAsksTheView(t *testing.T) {
	p := planOf(1, minSpace, "ps", "p")
	g, h := made(t, p), made(t, p)
	same := func(want bool) {
		t.Helper()
		if graph.Same(g, h) != want || graph.Same(h, g) != want || !graph.Same(g, g) {
			t.Errorf("Same is not %v", want)
		}
	}
	same(true)
	runs(t, g, "puti 0 1 4 ok")
	same(false)
	runs(t, h, "puti 0 1 4 ok")
	same(true)
	runs(t, h, "alloc 0 0 ok", "puti 0 1 4 ok")
	same(true)
	runs(t, h, "move 4 0 ok")
	same(false)
	runs(t, g, "move 4 0 ok")
	same(true)
	runs(t, h, "put 0 0 0 ok")
	same(false)
	runs(t, g, "alloc 1 0 ok", "put 0 0 1 ok", "drop 1 ok")
	same(false)
	runs(t, g, "put 4 0 4 ok")
	same(true)
	runs(t, g, "alloc 2 1 ok")
	runs(t, h, "alloc 2 0 ok")
	same(false)
	runs(t, g, "drop 0 ok", "drop 2 ok", "drop 4 ok")
	runs(t, h, "drop 0 ok", "drop 2 ok", "drop 4 ok")
	same(true)
}

// P9.3: views that are the same, and such as differ in one thing; lists that are nil are as empty ones.
func TestAlike(t *testing.T) {
	full := func() api.View {
		return api.View{Roots: [][]int{{1, 0, 2}, {2}, {}}, Nodes: []api.Node{{Shape: 1, Fields: []int64{2, 7}}, {Shape: 2}, {Fields: []int64{0}}}}
	}
	alike := func(a, b api.View, want bool) {
		t.Helper()
		if graph.Alike(a, b) != want || graph.Alike(b, a) != want {
			t.Errorf("Alike(%v, %v) is not %v, or not both ways", a, b, want)
		}
	}
	alike(full(), full(), true)
	for _, change := range []func(v *api.View){
		func(v *api.View) { v.Roots = append(v.Roots, nil) },
		func(v *api.View) { v.Roots = v.Roots[:2] },
		func(v *api.View) { v.Roots = nil },
		func(v *api.View) { v.Roots[0], v.Roots[1] = v.Roots[1], v.Roots[0] },
		func(v *api.View) { v.Roots[0][0] = 2 },
		func(v *api.View) { v.Roots[0][1] = -1 },
		func(v *api.View) { v.Roots[0][2] += 1 << 32 },
		func(v *api.View) { v.Roots[0] = v.Roots[0][:2] },
		func(v *api.View) { v.Roots[1] = nil },
		func(v *api.View) { v.Roots[1] = append(v.Roots[1], 0) },
		func(v *api.View) { v.Roots[2] = append(v.Roots[2], 0) },
		func(v *api.View) { v.Nodes = append(v.Nodes, api.Node{}) },
		func(v *api.View) { v.Nodes = v.Nodes[:2] },
		func(v *api.View) { v.Nodes = nil },
		func(v *api.View) { v.Nodes[0], v.Nodes[1] = v.Nodes[1], v.Nodes[0] },
		func(v *api.View) { v.Nodes[0].Shape = 2 },
		func(v *api.View) { v.Nodes[1].Shape = -2 },
		func(v *api.View) { v.Nodes[2].Shape += 1 << 32 },
		func(v *api.View) { v.Nodes[0].Fields[0] = 1 },
		func(v *api.View) { v.Nodes[0].Fields[1] += 1 << 32 },
		func(v *api.View) { v.Nodes[0].Fields = v.Nodes[0].Fields[:1] },
		func(v *api.View) { v.Nodes[1].Fields = append(v.Nodes[1].Fields, 0) },
		func(v *api.View) { v.Nodes[2].Fields = nil },
		func(v *api.View) { v.Nodes[2].Fields[0] = math.MinInt64 },
	} {
		v := full()
		change(&v)
		alike(v, v, true)
		alike(full(), v, false)
		alike(api.View{}, v, len(v.Roots) == 0 && len(v.Nodes) == 0)
	}
	alike(api.View{}, api.View{Roots: [][]int{}, Nodes: []api.Node{}}, true)
	alike(api.View{Roots: [][]int{nil}}, api.View{Roots: [][]int{{}}}, true)
	alike(api.View{Nodes: []api.Node{{}}}, api.View{Nodes: []api.Node{{Fields: []int64{}}}}, true)
	alike(api.View{Roots: [][]int{nil}}, api.View{}, false)
	alike(api.View{Nodes: []api.Node{{}}}, api.View{}, false)
}

// P9.3: views of graphs that differ in one root, one shape, one field or one node.
func TestAlikeOfGraphs(t *testing.T) {
	p := planOf(2, minSpace, "ps", "ps", "pss")
	base := []string{"alloc 1 0 ok", "put 0 0 1 ok"}
	for _, rows := range [][]string{
		{"move 2 0 ok"}, {"1: drop 0 ok"}, {"1: move 0 5 ok"}, {"puti 0 1 1 ok"}, {"puti 1 1 1 ok"}, {"put 1 0 1 ok"}, {"put 1 0 0 ok"}, {"put 0 0 0 ok"},
		{"alloc 2 0 ok", "put 1 0 2 ok", "drop 2 ok"}, {"alloc 1 1 ok", "put 0 0 1 ok"}, {"alloc 1 2 ok", "put 0 0 1 ok"}, {"drop 1 ok"}, {"drop 0 ok"},
	} {
		g, h := made(t, p), made(t, p)
		runs(t, g, base...)
		runs(t, h, base...)
		if !graph.Alike(g.View(), h.View()) {
			t.Error("views of the same operations are not alike")
		}
		runs(t, h, rows...)
		if graph.Alike(g.View(), h.View()) || graph.Alike(h.View(), g.View()) || graph.Same(g, h) {
			t.Errorf("behind %q they are alike still", rows)
		}
	}
}

// Rules: a view that was told is not changed by what is done later, and changing it changes no graph and no other view.
func TestViewsAreNew(t *testing.T) {
	g := made(t, planOf(2, minSpace, "pps", "p"))
	runs(t, g, "alloc 1 1 ok", "put 0 0 1 ok", "put 1 0 0 ok", "puti 0 2 9 ok")
	const want = "[[1 2 0 0 0 0] [1 0 0 0 0 0]] [{0 [2 0 9]} {1 [1]}]"
	v, w, h := g.View(), g.View(), g.Copy()
	runs(t, h, "puti 0 2 10 ok", "put 0 1 0 ok", "drop 1 ok")
	if told(v) != want || told(w) != want {
		t.Errorf("what a copy did changed views: %s, %s", told(v), told(w))
	}
	spoil(v)
	shows(t, g, want, 8, 2)
	if told(w) != want {
		t.Errorf("changing a view changed another one: %s", told(w))
	}
	runs(t, g, "puti 0 2 11 ok", "put 0 0 0 ok", "1: drop 0 ok", "alloc 3 0 ok", "drop 1 ok")
	if told(w) != want {
		t.Errorf("what was done later changed a view: %s", told(w))
	}
}

// spoil changes all that a view has, the spare room behind its lists included.
func spoil(v api.View) {
	for _, l := range v.Roots {
		for i := range l[:cap(l)] {
			l[:cap(l)][i] = 99
		}
	}
	for i, n := range v.Nodes {
		for j := range n.Fields[:cap(n.Fields)] {
			n.Fields[:cap(n.Fields)][j] = 99
		}
		v.Nodes[i] = api.Node{Shape: 99}
	}
	for i := range v.Roots[:cap(v.Roots)] {
		v.Roots[:cap(v.Roots)][i] = nil
	}
}

// Rules: no two lists of a view share memory, spare room behind them included.
func TestListsOfAViewAreApart(t *testing.T) {
	g := made(t, planOf(3, minSpace, "psp", "s"))
	runs(t, g, "alloc 1 1 ok", "alloc 2 0 ok", "1: alloc 3 1 ok")
	v := g.View()
	before := told(g.View())
	for i := range v.Roots {
		_ = append(v.Roots[i], 77, 77, 77, 77, 77, 77)
	}
	for i := range v.Nodes {
		_ = append(v.Nodes[i].Fields, 77, 77, 77, 77)
	}
	_ = append(v.Roots, nil, nil)
	_ = append(v.Nodes, api.Node{Shape: 77}, api.Node{Shape: 77})
	if told(v) != before {
		t.Errorf("a view's lists share room: %s; not %s", told(v), before)
	}
}

// Rules: a plan's table and views that are handed in are not changed, spare room behind them included; the table is not kept.
func TestWhatIsHandedInIsLeft(t *testing.T) {
	shapes := []api.Shape{"ps", "p", "left", "left"}
	p := planOf(1, minSpace, shapes[:2]...)
	g := made(t, p)
	h := g.Copy()
	runs(t, g, "alloc 1 1 ok", "put 1 0 0 ok", "alloc 2 2 error 130")
	if !slices.Equal(shapes, []api.Shape{"ps", "p", "left", "left"}) {
		t.Errorf("the table became %q", shapes)
	}
	shapes[0], shapes[1] = "ssssss", "x"
	runs(t, g, "alloc 3 1 ok", "alloc 4 0 ok", "put 4 0 3 ok", "puti 4 1 1 ok", "geti 4 2 error 131")
	shows(t, g, "[[1 2 0 3 4 0]] [{0 [0 0]} {1 [1]} {1 [0]} {0 [3 1]}]", 14, 4)
	if !graph.Same(h, made(t, planOf(1, minSpace, "ps", "p"))) {
		t.Error("a copy has another plan")
	}
	v, w := g.View(), h.View()
	first, second := told(v), told(w)
	graph.Alike(v, w)
	if told(v) != first || told(w) != second {
		t.Errorf("Alike changed views: %s, %s", told(v), told(w))
	}
}

// thing is an object gone through by hand; of a pointer field it has the other one's number, by their making, from 1 on.
type thing struct {
	shape  int
	fields []int64
}

// hand is the document's graph gone through by hand: all that were ever made, and each thread's slots.
type hand struct {
	api.Plan
	things []thing
	slots  [][slotCount]int
}

func handOf(p api.Plan) *hand {
	h := &hand{Plan: p, slots: make([][slotCount]int, p.Threads)}
	n := h.make(0)
	for i := range h.slots {
		h.slots[i][0] = n
	}
	return h
}

func (h *hand) make(shape int) int {
	h.things = append(h.things, thing{shape, make([]int64, len(h.Shapes[shape]))})
	return len(h.things)
}

// fault is what layer 8 refuses, or what the slot A's object does.
func (h *hand) fault(thread int, x api.Op) api.Errno {
	if errno := op.Check(h.Shapes, x); errno != 0 {
		return errno
	}
	if x.Kind < 2 || x.Kind > 7 {
		return 0
	}
	n := h.slots[thread][x.A]
	if n == 0 {
		return 183
	}
	letters := h.Shapes[h.things[n-1].shape]
	if x.Field < 0 || x.Field >= len(letters) {
		return 131
	}
	if isPointer := x.Kind <= 4; (letters[x.Field] == 'p') != isPointer {
		return 132
	}
	return 0
}

func (h *hand) do(thread int, x api.Op) api.Out {
	if errno := h.fault(thread, x); errno != 0 {
		return api.Out{Err: errno}
	}
	own := &h.slots[thread]
	var at *int64
	if x.Kind >= 2 && x.Kind <= 7 {
		at = &h.things[own[x.A]-1].fields[x.Field]
	}
	switch x.Kind {
	case 1:
		own[x.A] = h.make(x.Shape)
	case 2:
		own[x.B] = int(*at)
		return api.Out{Is: *at != 0}
	case 3:
		*at = int64(own[x.B])
	case 4:
		if *at != int64(own[x.B]) {
			return api.Out{}
		}
		*at = int64(own[x.C])
		return api.Out{Is: true}
	case 5:
		return api.Out{Value: *at}
	case 6:
		*at = x.X
	case 7:
		if *at != x.X {
			return api.Out{}
		}
		*at = x.Y
		return api.Out{Is: true}
	case 8:
		return api.Out{Is: own[x.A] == own[x.B]}
	case 9:
		own[x.A] = own[x.B]
	case 10:
		own[x.A] = 0
	}
	return api.Out{}
}

// view and words go over the slots, then over the nodes in their order, as the document has it.
func (h *hand) view() (v api.View, words int) {
	var order []int
	number := func(n int) int {
		if n == 0 {
			return 0
		}
		if !slices.Contains(order, n) {
			order = append(order, n)
		}
		return slices.Index(order, n) + 1
	}
	for _, own := range h.slots {
		var roots []int
		for _, n := range own {
			roots = append(roots, number(n))
		}
		v.Roots = append(v.Roots, roots)
	}
	for i := 0; i < len(order); i++ {
		x := h.things[order[i]-1]
		node := api.Node{Shape: x.shape}
		for at, letter := range h.Shapes[x.shape] {
			told := x.fields[at]
			if letter == 'p' {
				told = int64(number(int(told)))
			}
			node.Fields = append(node.Fields, told)
		}
		v.Nodes = append(v.Nodes, node)
		words += 2 + len(x.fields)
	}
	return v, words
}

// drawer draws numbers below a bound, the same ones each time for a seed.
type drawer uint64

func (d *drawer) below(n int) int {
	*d = *d*6364136223846793005 + 1442695040888963407
	return int(uint64(*d) >> 33 % uint64(n))
}

// draw is an operation of some kind, mostly one that may be, of slots that mostly hold something.
func (d *drawer) draw(p api.Plan) api.Op {
	fair := api.Op{
		A: d.below(slotCount), B: d.below(slotCount), C: d.below(slotCount), Field: d.below(5), Shape: d.below(len(p.Shapes)),
		X: int64(d.below(3)), Y: int64(d.below(3)),
	}
	if d.below(40) == 0 {
		fair = api.Op{A: d.below(9) - 1, B: d.below(9) - 1, C: d.below(9) - 1, Field: d.below(12) - 2, Shape: d.below(20) - 1, X: maxScalar + int64(d.below(3)), Y: minScalar - int64(d.below(2))}
	}
	x := api.Op{Kind: api.OpKind(d.below(11) + 1)}
	switch x.Kind {
	case 1:
		x.A, x.Shape = fair.A, fair.Shape
	case 2, 3:
		x.A, x.Field, x.B = fair.A, fair.Field, fair.B
	case 4:
		x.A, x.Field, x.B, x.C = fair.A, fair.Field, fair.B, fair.C
	case 5:
		x.A, x.Field = fair.A, fair.Field
	case 6:
		x.A, x.Field, x.X = fair.A, fair.Field, fair.X
	case 7:
		x.A, x.Field, x.X, x.Y = fair.A, fair.Field, fair.X, fair.Y
	case 8, 9:
		x.A, x.B = fair.A, fair.B
	case 10:
		if d.below(3) == 0 {
			x.A = fair.A
		} else {
			x = api.Op{Kind: 11}
		}
	}
	if d.below(200) == 0 {
		x = api.Op{Kind: api.OpKind(d.below(14) - 1), A: fair.A, Shape: 1, Y: 1}
	}
	return x
}

// P9.1, P9.2, P9.4: mixed operations of several threads are answered as the document's words, gone through by hand, are; what is refused changes nothing.
func TestMixedOperations(t *testing.T) {
	met := map[api.Errno]int{}
	for i, p := range fairPlans() {
		for seed := range 6 {
			d := drawer(100*i + seed)
			g, h := made(t, p), handOf(p)
			for range 400 {
				thread, x := d.below(p.Threads), d.draw(p)
				before := state(g)
				want := h.do(thread, x)
				does(t, g, thread, x, want)
				met[want.Err]++
				if want.Err != 0 && state(g) != before {
					t.Fatalf("Do(%d, %+v) was refused with %d, and changed %s to %s", thread, x, want.Err, before, state(g))
				}
				v, words := h.view()
				shows(t, g, told(v), words, len(h.things))
				if t.Failed() {
					t.Fatalf("behind Do(%d, %+v) of %+v", thread, x, p)
				}
			}
		}
	}
	for _, errno := range []api.Errno{0, 130, 131, 132, 180, 181, 182, 183} {
		if met[errno] < 20 {
			t.Errorf("%d was met %d times alone", errno, met[errno])
		}
	}
}

// P9.3: copies taken on the way, each of which goes on with other operations; none knows of another.
func TestMixedCopies(t *testing.T) {
	for i, p := range fairPlans() {
		d := drawer(7000 + i)
		graphs, hands := []*graph.Graph{made(t, p)}, []*hand{handOf(p)}
		for turn := range 600 {
			n := d.below(len(graphs))
			thread, x := d.below(p.Threads), d.draw(p)
			does(t, graphs[n], thread, x, hands[n].do(thread, x))
			if turn%120 == 40 {
				graphs = append(graphs, graphs[n].Copy())
				hands = append(hands, hands[n].copy())
			}
			for k, g := range graphs {
				v, words := hands[k].view()
				shows(t, g, told(v), words, len(hands[k].things))
				w, _ := hands[n].view()
				if graph.Same(g, graphs[n]) != (told(v) == told(w)) {
					t.Errorf("Same of %s and %s", told(v), told(w))
				}
			}
			if t.Failed() {
				t.Fatalf("behind Do(%d, %+v) of the graph %d of %+v", thread, x, n, p)
			}
		}
	}
}

func (h *hand) copy() *hand {
	k := &hand{Plan: h.Plan, slots: slices.Clone(h.slots)}
	for _, x := range h.things {
		k.things = append(k.things, thing{x.shape, slices.Clone(x.fields)})
	}
	return k
}

// P9.4: an object that can't be reached can't be reached any more: each has a number of its own in its scalar field, by which it is seen.
func TestWhatIsGoneStaysGone(t *testing.T) {
	for seed := range 20 {
		d := drawer(900 + seed)
		p := planOf(3, minSpace, "pps", "sp")
		g := made(t, p)
		gone := map[int64]bool{}
		before := map[int64]bool{0: true}
		for next := int64(1); next < 1500; next++ {
			thread, x := d.below(p.Threads), d.draw(p)
			if x.Kind == 6 || x.Kind == 7 {
				continue
			}
			if o, _ := g.Do(thread, x); x.Kind == 1 && o.Err == 0 {
				does(t, g, thread, api.Op{Kind: 6, A: x.A, Field: 2 - 2*x.Shape, X: next}, api.Out{})
			}
			now := map[int64]bool{}
			for _, n := range g.View().Nodes {
				own := n.Fields[2-2*n.Shape]
				if now[own] || gone[own] {
					t.Fatalf("behind Do(%d, %+v): %d is seen twice, or was gone", thread, x, own)
				}
				now[own] = true
			}
			for own := range before {
				gone[own] = !now[own]
			}
			before = now
		}
		if len(gone) < 50 {
			t.Errorf("%d were met alone", len(gone))
		}
	}
}

// P9.4: Get behind Put of the same field is what was put, of each slot.
func TestGetBehindPut(t *testing.T) {
	for seed := range 300 {
		d := drawer(5000 + seed)
		p := planOf(2, minSpace, "psp", "p")
		g := made(t, p)
		for range 60 {
			g.Do(d.below(2), d.draw(p))
		}
		for slot := range slotCount {
			for field := range 3 {
				h := g.Copy()
				put := api.Op{Kind: 3, A: d.below(slotCount), Field: field, B: slot}
				if o, _ := h.Do(0, put); o.Err != 0 {
					continue
				}
				into := d.below(slotCount)
				holds := h.View().Roots[0][slot] != 0
				does(t, h, 0, api.Op{Kind: 2, A: put.A, Field: field, B: into}, api.Out{Is: holds})
				if slot != into {
					does(t, h, 0, api.Op{Kind: 8, A: into, B: slot}, api.Out{Is: true})
				}
			}
		}
	}
}

// P9.4: Cas goes well just if Eq of what Get tells and of the old one does; the field then holds the new one, else what it held.
func TestCasIsGetAndEq(t *testing.T) {
	well, ill := 0, 0
	for seed := range 300 {
		d := drawer(6000 + seed)
		p := planOf(2, minSpace, "psp", "p")
		g := made(t, p)
		for range 60 {
			g.Do(d.below(2), d.draw(p))
		}
		for old := range slotCount {
			for now := range slotCount {
				cas := api.Op{Kind: 4, A: d.below(slotCount), Field: 2 * d.below(2), B: old, C: now}
				asked, done := g.Copy(), g.Copy()
				spare := (max(old, now) + 1) % slotCount // slot that Get may fill
				if spare == old || spare == now {
					continue
				}
				if o, _ := asked.Do(0, api.Op{Kind: 2, A: cas.A, Field: cas.Field, B: spare}); o.Err != 0 {
					does(t, done, 0, cas, o)
					continue
				}
				held, _ := asked.Do(0, api.Op{Kind: 8, A: spare, B: old})
				does(t, done, 0, cas, held)
				want := g.Copy()
				if held.Is {
					well++
					does(t, want, 0, api.Op{Kind: 3, A: cas.A, Field: cas.Field, B: now}, api.Out{})
				} else {
					ill++
				}
				if !graph.Same(want, done) {
					t.Errorf("behind %+v: %s; not %s", cas, state(done), state(want))
				}
			}
		}
	}
	if well < 500 || ill < 500 {
		t.Errorf("%d went well, %d did not: too few", well, ill)
	}
}

// P9.1: the document's examples.
func TestExamples(t *testing.T) {
	g := made(t, planOf(1, minSpace, "ps", ""))
	runs(t, g, "alloc 0 0 ok", "alloc 1 1 ok", "put 0 0 1 ok", "drop 1 ok", "get 0 0 2 object")
	runs(t, g, "cas 0 0 2 3 yes", "eq 2 3 no", "geti 0 1 0", "geti 0 0 error 132", "get 3 0 0 error 183")
}
