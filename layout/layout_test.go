package layout_test

import (
	"fmt"
	"math"
	"slices"
	"strings"
	"testing"

	"lapidary/api"
	"lapidary/head"
	"lapidary/layout"
	"lapidary/pack"
	"lapidary/shape"
	"lapidary/word"
)

// The limits, as the document's table has them.
const (
	minSpace   = 32
	maxSpace   = 4096
	maxThreads = 8
	maxWords   = 16384
)

const scalarNought = 1<<62 + 4 // 8 times (0 and 2^59), and 4

func planOf(threads, space int, shapes ...api.Shape) api.Plan {
	return api.Plan{Threads: threads, Space: space, Shapes: shapes}
}

// manyShapes are as many shapes as a table has at most.
func manyShapes() []api.Shape {
	return []api.Shape{
		"psp", "p", "ss", "", "", "spspspsp", "s", "pp", "pppppppp", "psps", "p", "sssss", "", "pspsps", "ppppppp", "ps",
	}
}

func fairTables() [][]api.Shape {
	return [][]api.Shape{
		{""}, {"p"}, {"s"}, {"ps"}, {"sp"}, {"pppppppp"}, {"ssssssss"}, {"pspsspps"}, {"ppppppp"},
		{"", "pppppppp"}, {"sps", ""}, manyShapes(), slices.Repeat([]api.Shape{""}, 16), slices.Repeat([]api.Shape{"sssspppp"}, 16),
	}
}

// fairPlans are plans at and between the bounds of threads and spaces, with each table.
func fairPlans() []api.Plan {
	var all []api.Plan
	for _, l := range fairTables() {
		for threads := 1; threads <= maxThreads; threads++ {
			for _, space := range []int{minSpace, minSpace + 1, 40, 1000, maxSpace - 1, maxSpace} {
				all = append(all, planOf(threads, space, l...))
			}
		}
	}
	return all
}

// walkedPlans are fewer: each word of theirs is gone over.
func walkedPlans() []api.Plan {
	var all []api.Plan
	for threads := 1; threads <= maxThreads; threads++ {
		for _, space := range []int{minSpace, minSpace + 1, 40, 515} {
			all = append(all, planOf(threads, space, "ps"))
		}
	}
	return append(all, planOf(1, maxSpace, ""), planOf(maxThreads, maxSpace, manyShapes()...), planOf(3, maxSpace-1, "p"))
}

func huge() []int {
	return []int{
		1 << 16, 1 << 32, 1<<32 + 1, 1<<32 + 40, 1 << 61, 1 << 62, -1 << 16, -1 << 32, -1<<32 + 1, -1 << 62, math.MaxInt32, math.MinInt32,
		math.MaxInt, math.MaxInt - 1, math.MinInt, math.MinInt + 1, math.MinInt + 40,
	}
}

func wrongThreads() []int {
	return append(huge(), 0, -1, -2, -maxThreads, maxThreads+1, maxThreads+2, 2*maxThreads, 256, 257)
}

func wrongSpaces() []int {
	return append(huge(), minSpace-1, 0, 1, -1, -minSpace, -maxSpace, maxSpace+1, maxSpace+2, 2*maxSpace, maxSpace+minSpace, 1<<16+40)
}

func wrongTables() [][]api.Shape {
	return [][]api.Shape{
		nil, {}, manyShapes()[:0], {"x"}, {"ps", "x"}, {"x", "ps"}, {"P"}, {"-"}, {"p s"}, {"ppppppppp"}, {"p", "sssssssss"}, {"p", "\xff"}, {"é"},
		slices.Repeat([]api.Shape{"p"}, 17), append(manyShapes(), ""), slices.Repeat([]api.Shape{"ps"}, 1000),
		append(slices.Repeat([]api.Shape{"s"}, 15), "sssssssss"), append(slices.Repeat([]api.Shape{"p"}, 15), "x"),
		{api.Shape(strings.Repeat("p", 65536))},
	}
}

// wrongPlans are wrong in one thing, in two, in all.
func wrongPlans() []api.Plan {
	all := []api.Plan{{}}
	for _, n := range wrongThreads() {
		all = append(all, planOf(n, 40, "ps"), planOf(n, maxSpace, manyShapes()...), planOf(n, 40))
		for _, space := range wrongSpaces() {
			all = append(all, planOf(n, space, "ps"), planOf(n, space, "x"))
		}
	}
	for _, n := range wrongSpaces() {
		all = append(all, planOf(1, n, "ps"), planOf(2, n, "p"), planOf(maxThreads, n, manyShapes()...), planOf(2, n, "x"))
	}
	for _, l := range wrongTables() {
		all = append(all, planOf(1, minSpace, l...), planOf(2, 40, l...), planOf(maxThreads, maxSpace, l...))
	}
	return all
}

// name is short, however long a plan's table is.
func name(p api.Plan) string {
	return fmt.Sprintf("(%d threads, %d words, %.60q)", p.Threads, p.Space, p.Shapes)
}

// told is a word's part and its text, as the document says them.
type told struct {
	part api.Part
	text string
}

// words lays a plan's arena out, word by word, in the document's order.
func words(p api.Plan) []told {
	all := []told{{api.Part{Kind: 1}, "request"}, {api.Part{Kind: 2}, "frontier"}, {api.Part{Kind: 3}, "trigger"}}
	for i := range p.Threads {
		all = append(all, told{api.Part{Kind: 4, Number: i}, fmt.Sprintf("ack %d", i)})
	}
	for i := range p.Threads {
		all = append(all, told{api.Part{Kind: 5, Number: i}, fmt.Sprintf("list %d", i)})
	}
	for space := range 2 {
		for at := range p.Space {
			all = append(all, told{api.Part{Kind: 6, Number: space, At: at}, fmt.Sprintf("space %d %d", space, at)})
		}
	}
	return all
}

// begin is what an arena's words are at the start, as the document says.
func begin(p api.Plan) []uint64 {
	l := make([]uint64, 3+2*p.Threads+2*p.Space)
	l[1] = 2 * (uint64(2+len(p.Shapes[0])) + 8192*uint64(p.Space))
	base := 3 + 2*p.Threads
	l[base] = 6
	for i, letter := range p.Shapes[0] {
		if letter == 's' {
			l[base+2+i] = scalarNought
		}
	}
	return l
}

// P6.1: plans at all bounds, with each table.
func TestCheck(t *testing.T) {
	for _, p := range fairPlans() {
		if errno := layout.Check(p); errno != 0 {
			t.Errorf("Check%s = %d", name(p), errno)
		}
	}
	for space := minSpace; space <= maxSpace; space++ {
		if errno := layout.Check(planOf(2, space, "p")); errno != 0 {
			t.Errorf("Check of %d words = %d", space, errno)
		}
	}
}

// P6.1 to P6.3: what may not be of a plan is ErrArg for each call, whatever else is wrong, and all other answers are zero.
func TestWrongPlans(t *testing.T) {
	for _, p := range wrongPlans() {
		if errno := layout.Check(p); errno != 2 {
			t.Errorf("Check%s = %d", name(p), errno)
		}
		if n, errno := layout.Size(p); n != 0 || errno != 2 {
			t.Errorf("Size%s = %d, %d", name(p), n, errno)
		}
		if l, errno := layout.Start(p); l != nil || errno != 2 {
			t.Errorf("Start%s = %d words, %d", name(p), len(l), errno)
		}
		for _, n := range []int{0, 1, 2, 7, -1, 1 << 20, math.MaxInt, math.MinInt} {
			refusesNumber(t, p, n, 2)
		}
		for _, x := range []api.Part{
			{Kind: 1}, {Kind: 4}, {Kind: 6}, {Kind: 6, Number: 1, At: 3}, {}, {Kind: 7}, {Kind: 1, Number: 1},
			{Kind: 4, Number: 9}, {Kind: 4, Number: -1, At: 1}, {Kind: 6, Number: 2}, {Kind: 6, At: math.MinInt},
		} {
			refusesPart(t, p, x, 2)
		}
	}
}

// refusesNumber hands each call that takes a number one for which it is to answer an error.
func refusesNumber(t *testing.T, p api.Plan, n int, want api.Errno) {
	t.Helper()
	for call, f := range map[string]func(api.Plan, int) (int, api.Errno){"Ack": layout.Ack, "List": layout.List, "Base": layout.Base} {
		if at, errno := f(p, n); at != 0 || errno != want {
			t.Errorf("%s(%s, %d) = %d, %d; not %d", call, name(p), n, at, errno, want)
		}
	}
	refusesWord(t, p, n, want)
}

func refusesWord(t *testing.T, p api.Plan, at int, want api.Errno) {
	t.Helper()
	if x, errno := layout.Part(p, at); x != (api.Part{}) || errno != want {
		t.Errorf("Part(%s, %d) = %v, %d; not %d", name(p), at, x, errno, want)
	}
	if s, errno := layout.Text(p, at); s != "" || errno != want {
		t.Errorf("Text(%s, %d) = %q, %d; not %d", name(p), at, s, errno, want)
	}
}

func refusesPart(t *testing.T, p api.Plan, x api.Part, want api.Errno) {
	t.Helper()
	if at, errno := layout.At(p, x); at != 0 || errno != want {
		t.Errorf("At(%s, %v) = %d, %d; not %d", name(p), x, at, errno, want)
	}
}

// P6.1: three words, two for each thread, two spaces; shapes change nothing.
func TestSize(t *testing.T) {
	for _, p := range fairPlans() {
		if n, errno := layout.Size(p); n != 3+2*p.Threads+2*p.Space || errno != 0 {
			t.Errorf("Size%s = %d, %d", name(p), n, errno)
		}
	}
	for want, p := range map[int]api.Plan{69: planOf(1, 32, ""), 83: planOf(8, 32, "p"), 8197: planOf(1, 4096, "s"), 8211: planOf(8, 4096, "ps")} {
		if n, errno := layout.Size(p); n != want || errno != 0 {
			t.Errorf("Size%s = %d, %d; not %d", name(p), n, errno, want)
		}
	}
}

// P6.1: every word at the start, of every plan.
func TestStart(t *testing.T) {
	for _, p := range fairPlans() {
		if l, errno := layout.Start(p); !slices.Equal(l, begin(p)) || errno != 0 {
			t.Errorf("Start%s = %v.., %d; not %v..", name(p), l[:min(len(l), 40)], errno, begin(p)[:40])
		}
	}
}

// P6.1: the start of a few plans, by numbers that were typed.
func TestStartByNumbers(t *testing.T) {
	for _, row := range []struct {
		plan  api.Plan
		first []uint64 // all behind it are 0
		len   int
	}{
		{planOf(1, 32, ""), []uint64{0, 524292, 0, 0, 0, 6}, 69},
		{planOf(2, 40, "p"), []uint64{0, 655366, 0, 0, 0, 0, 0, 6}, 87},
		{planOf(2, 32, "ps", "p"), []uint64{0, 524296, 0, 0, 0, 0, 0, 6, 0, 0, 4611686018427387908}, 71},
		{planOf(1, 4096, "sp"), []uint64{0, 67108872, 0, 0, 0, 6, 0, 4611686018427387908}, 8197},
		{planOf(1, 32, "pppppppp"), []uint64{0, 524308, 0, 0, 0, 6}, 69},
		{planOf(1, 32, "ssssssss"), append([]uint64{0, 524308, 0, 0, 0, 6, 0}, slices.Repeat([]uint64{4611686018427387908}, 8)...), 69},
	} {
		want := append(row.first, make([]uint64, row.len-len(row.first))...)
		if l, errno := layout.Start(row.plan); !slices.Equal(l, want) || errno != 0 {
			t.Errorf("Start%s = %v, %d; not %v", name(row.plan), l, errno, want)
		}
	}
}

// P6.1: the layers below tell what stands there at the start.
func TestStartIsTold(t *testing.T) {
	for _, p := range fairPlans() {
		l, _ := layout.Start(p)
		if x, errno := pack.OfRequest(l[0]); x != (api.Request{Epoch: 0, Phase: api.PhasePlain}) || errno != 0 {
			t.Errorf("%s: request %v, %d", name(p), x, errno)
		}
		size, _ := shape.Size(p.Shapes, 0)
		if x, errno := pack.OfFront(l[1]); x != (api.Front{Space: 0, Low: size, High: p.Space, Other: 0}) || errno != 0 {
			t.Errorf("%s: frontier %v, %d", name(p), x, errno)
		}
		base, _ := layout.Base(p, 0)
		if x, ok := head.Of(l[base]); x != (api.Head{Shape: 0, Mark: api.MarkWhite}) || !ok {
			t.Errorf("%s: header %v, %v", name(p), x, ok)
		}
		for field, kind := range shape.All(p.Shapes[0]) {
			want := api.Word{Kind: api.WordNull}
			if kind == api.FieldScalar {
				want.Kind = api.WordScalar
			}
			if x := word.Of(l[base+2+field]); x != want {
				t.Errorf("%s: field %d holds %v", name(p), field, x)
			}
		}
	}
}

// P6.2: each thread's ack and list, each space's first word.
func TestAckListBase(t *testing.T) {
	for _, p := range fairPlans() {
		for thread := range p.Threads {
			if at, errno := layout.Ack(p, thread); at != 3+thread || errno != 0 {
				t.Errorf("Ack(%s, %d) = %d, %d", name(p), thread, at, errno)
			}
			if at, errno := layout.List(p, thread); at != 3+p.Threads+thread || errno != 0 {
				t.Errorf("List(%s, %d) = %d, %d", name(p), thread, at, errno)
			}
		}
		for space := range 2 {
			if at, errno := layout.Base(p, space); at != 3+2*p.Threads+space*p.Space || errno != 0 {
				t.Errorf("Base(%s, %d) = %d, %d", name(p), space, at, errno)
			}
		}
	}
}

// P6.2: one below the first, one past the last thread and space, and far beyond.
func TestAckListBaseRefuse(t *testing.T) {
	for _, p := range walkedPlans() {
		for _, n := range append(huge(), -1, -2, -p.Threads, p.Threads, p.Threads+1, 2*p.Threads, maxThreads, maxThreads+1) {
			if n >= 0 && n < p.Threads {
				continue
			}
			if at, errno := layout.Ack(p, n); at != 0 || errno != 4 {
				t.Errorf("Ack(%s, %d) = %d, %d", name(p), n, at, errno)
			}
			if at, errno := layout.List(p, n); at != 0 || errno != 4 {
				t.Errorf("List(%s, %d) = %d, %d", name(p), n, at, errno)
			}
		}
		for _, n := range append(huge(), -1, -2, 2, 3, 4, p.Space) {
			if at, errno := layout.Base(p, n); at != 0 || errno != 4 {
				t.Errorf("Base(%s, %d) = %d, %d", name(p), n, at, errno)
			}
		}
	}
}

// P6.3, P6.4: each word is of just the part that the document says, and At of it is the word's number.
func TestEachWord(t *testing.T) {
	for _, p := range walkedPlans() {
		seen := map[api.Part]int{}
		for at, want := range words(p) {
			x, errno := layout.Part(p, at)
			if x != want.part || errno != 0 {
				t.Fatalf("Part(%s, %d) = %v, %d; not %v", name(p), at, x, errno, want.part)
			}
			if s, errno := layout.Text(p, at); s != want.text || errno != 0 {
				t.Fatalf("Text(%s, %d) = %q, %d; not %q", name(p), at, s, errno, want.text)
			}
			if back, errno := layout.At(p, x); back != at || errno != 0 {
				t.Fatalf("At(%s, %v) = %d, %d; not %d", name(p), x, back, errno, at)
			}
			if other, ok := seen[x]; ok {
				t.Fatalf("%s: %d and %d both are %v", name(p), other, at, x)
			}
			seen[x] = at
		}
		if n, _ := layout.Size(p); n != len(seen) {
			t.Errorf("Size%s = %d; there are %d parts", name(p), n, len(seen))
		}
	}
}

// P6.3: one below the first word, one past the last, and far beyond.
func TestWordsThatAreNot(t *testing.T) {
	for _, p := range fairPlans() {
		size := 3 + 2*p.Threads + 2*p.Space
		for _, at := range append(huge(), -1, -2, -size, size, size+1, 2*size, maxWords, size+p.Space) {
			refusesWord(t, p, at, 4)
		}
	}
}

// P6.3: parts of no kind, the kinds beside the first and the last one, with whatever numbers.
func TestNoKind(t *testing.T) {
	for _, p := range walkedPlans() {
		for _, kind := range append(huge(), 0, -1, -6, 7, 8, 256, 262) {
			for _, x := range []api.Part{{}, {Number: 1}, {At: 1}, {Number: -1, At: -1}, {Number: math.MaxInt, At: math.MinInt}} {
				x.Kind = api.PartKind(kind)
				refusesPart(t, p, x, 2)
			}
		}
	}
}

// P6.3: a Number, an At that is to be 0 and is not is ErrArg, ahead of a thread that is not there.
func TestNumbersThatAreToBeNought(t *testing.T) {
	wrong := append(huge(), 1, 2, -1, -2, 3, 40)
	for _, p := range walkedPlans() {
		for _, n := range wrong {
			for kind := api.PartKind(1); kind <= 3; kind++ {
				refusesPart(t, p, api.Part{Kind: kind, Number: n}, 2)
				refusesPart(t, p, api.Part{Kind: kind, At: n}, 2)
				refusesPart(t, p, api.Part{Kind: kind, Number: n, At: n}, 2)
				refusesPart(t, p, api.Part{Kind: kind, Number: n, At: -n}, 2)
			}
			for kind := api.PartKind(4); kind <= 5; kind++ {
				for _, thread := range []int{0, p.Threads - 1, p.Threads, -1, math.MaxInt, math.MinInt} {
					refusesPart(t, p, api.Part{Kind: kind, Number: thread, At: n}, 2)
				}
			}
		}
	}
}

// P6.3: parts that may be, of a thread, a space, a word that is not there, those among them whose sums would fall on a word.
func TestPartsThatAreNot(t *testing.T) {
	for _, p := range walkedPlans() {
		for _, n := range append(huge(), -1, -2, p.Threads, p.Threads+1, 2*p.Threads, maxThreads) {
			if n >= 0 && n < p.Threads {
				continue
			}
			refusesPart(t, p, api.Part{Kind: api.PartAck, Number: n}, 4)
			refusesPart(t, p, api.Part{Kind: api.PartList, Number: n}, 4)
		}
		for _, n := range append(huge(), -1, -2, 2, 3) {
			for _, at := range []int{0, 1, p.Space - 1, p.Space, -1, -p.Space, -n * p.Space} {
				refusesPart(t, p, api.Part{Kind: api.PartSpace, Number: n, At: at}, 4)
			}
		}
		for _, at := range append(huge(), -1, -p.Space, p.Space, p.Space+1, 2*p.Space) {
			if at >= 0 && at < p.Space {
				continue
			}
			for _, space := range []int{0, 1, 2, -1} {
				refusesPart(t, p, api.Part{Kind: api.PartSpace, Number: space, At: at}, 4)
			}
		}
	}
}

// P6.3: the first and the last word of each part, by its number.
func TestEdgesOfParts(t *testing.T) {
	p := planOf(8, 4096, "p")
	for at, want := range map[int]told{
		0: {api.Part{Kind: 1}, "request"}, 1: {api.Part{Kind: 2}, "frontier"}, 2: {api.Part{Kind: 3}, "trigger"},
		3: {api.Part{Kind: 4}, "ack 0"}, 10: {api.Part{Kind: 4, Number: 7}, "ack 7"},
		11: {api.Part{Kind: 5}, "list 0"}, 18: {api.Part{Kind: 5, Number: 7}, "list 7"},
		19: {api.Part{Kind: 6}, "space 0 0"}, 4114: {api.Part{Kind: 6, At: 4095}, "space 0 4095"},
		4115: {api.Part{Kind: 6, Number: 1}, "space 1 0"}, 8210: {api.Part{Kind: 6, Number: 1, At: 4095}, "space 1 4095"},
	} {
		if x, errno := layout.Part(p, at); x != want.part || errno != 0 {
			t.Errorf("Part(%d) = %v, %d; not %v", at, x, errno, want.part)
		}
		if s, errno := layout.Text(p, at); s != want.text || errno != 0 {
			t.Errorf("Text(%d) = %q, %d; not %q", at, s, errno, want.text)
		}
		if n, errno := layout.At(p, want.part); n != at || errno != 0 {
			t.Errorf("At(%v) = %d, %d; not %d", want.part, n, errno, at)
		}
	}
}

// P6.4: Ack, List and Base are At of those parts.
func TestAckListBaseAreAt(t *testing.T) {
	for _, p := range walkedPlans() {
		for n := -1; n <= maxThreads; n++ {
			for kind, f := range map[api.PartKind]func(api.Plan, int) (int, api.Errno){4: layout.Ack, 5: layout.List, 6: layout.Base} {
				at, errno := f(p, n)
				if want, wantErr := layout.At(p, api.Part{Kind: kind, Number: n}); at != want || errno != wantErr {
					t.Errorf("%s, kind %d, %d: %d, %d; At is %d, %d", name(p), kind, n, at, errno, want, wantErr)
				}
			}
		}
	}
}

// P6.4: no arena is longer than MaxWords, and the start has as many words as Size says; no word of a space has the number 0.
func TestArenasAreShort(t *testing.T) {
	for _, p := range fairPlans() {
		n, _ := layout.Size(p)
		if l, _ := layout.Start(p); n < 1 || n > maxWords || len(l) != n {
			t.Errorf("%s has %d words, at the start %d", name(p), n, len(l))
		}
		for space := range 2 {
			if at, errno := layout.Base(p, space); at < 1 || errno != 0 {
				t.Errorf("Base(%s, %d) = %d, %d", name(p), space, at, errno)
			}
		}
	}
}

// Rules: a plan's table is neither changed, spare room behind it included, nor kept.
func TestTableIsLeft(t *testing.T) {
	whole := manyShapes()
	p := planOf(2, 40, whole[:3]...)
	l, _ := layout.Start(p)
	layout.Check(p)
	layout.Size(p)
	layout.Ack(p, 0)
	layout.List(p, 1)
	layout.Base(p, 1)
	layout.Part(p, 50)
	layout.At(p, api.Part{Kind: api.PartSpace, At: 3})
	layout.Text(p, 50)
	if !slices.Equal(whole, manyShapes()) {
		t.Errorf("the table became %q", whole)
	}
	want := begin(p)
	for i := range whole {
		whole[i] = "x"
	}
	if !slices.Equal(l, want) {
		t.Errorf("the start became %v", l)
	}
}

// Rules: two answers of Start share no memory, and what is done to one changes no later one.
func TestStartIsNew(t *testing.T) {
	p := planOf(2, 40, "ps")
	a, _ := layout.Start(p)
	b, _ := layout.Start(p)
	for i := range a[:cap(a)] {
		a[:cap(a)][i] = 99
	}
	c, _ := layout.Start(p)
	if !slices.Equal(b, begin(p)) || !slices.Equal(c, begin(p)) {
		t.Errorf("Start shares its words: %v, %v", b, c)
	}
}

// P6.1 to P6.3: the document's examples.
func TestExamples(t *testing.T) {
	p := planOf(2, 40, "p")
	if n, errno := layout.Size(p); n != 87 || errno != api.OK {
		t.Error("Size", n, errno)
	}
	if n, errno := layout.Ack(p, 1); n != 4 || errno != api.OK {
		t.Error("Ack(1)", n, errno)
	}
	if n, errno := layout.List(p, 0); n != 5 || errno != api.OK {
		t.Error("List(0)", n, errno)
	}
	if n, errno := layout.Base(p, 0); n != 7 || errno != api.OK {
		t.Error("Base(0)", n, errno)
	}
	if n, errno := layout.Base(p, 1); n != 47 || errno != api.OK {
		t.Error("Base(1)", n, errno)
	}
	if x, errno := layout.Part(p, 50); x != (api.Part{Kind: api.PartSpace, Number: 1, At: 3}) || errno != api.OK {
		t.Error("Part(50)", x, errno)
	}
	if s, errno := layout.Text(p, 4); s != "ack 1" || errno != api.OK {
		t.Error("Text(4)", s, errno)
	}
	if x, errno := layout.Part(p, 87); x != (api.Part{}) || errno != api.ErrRange {
		t.Error("Part(87)", x, errno)
	}
}
