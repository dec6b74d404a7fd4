package head_test

import (
	"math"
	"slices"
	"strconv"
	"strings"
	"testing"

	"lapidary/api"
	"lapidary/head"
	"lapidary/word"
)

// fair is a header that may be, with what the document says of it.
type fair struct {
	head api.Head
	word uint64
	text string
}

func fairs() []fair {
	var all []fair
	for shape := range 16 {
		for mark, name := range []string{"white", "grey", "black"} {
			all = append(all, fair{
				api.Head{Shape: shape, Mark: api.Mark(mark)},
				8*(4*uint64(shape)+uint64(mark)) + 6,
				strconv.Itoa(shape) + " " + name,
			})
		}
	}
	return all
}

func wrongMarks() []api.Mark {
	return []api.Mark{
		3, 4, 5, 7, 8, 16, 255, 256, 1 << 16, 1 << 32, 1<<32 + 1, 1 << 59, 1 << 61, 1 << 62, -1, -2, -3, -4, -8, -256, -1 << 32,
		math.MaxInt32, math.MinInt32, math.MaxInt, math.MaxInt - 1, math.MinInt, math.MinInt + 1, math.MinInt + 2,
	}
}

func wrongShapes() []int {
	return []int{
		16, 17, 31, 32, 64, 255, 256, 1 << 16, 1 << 32, 1<<32 + 3, 1 << 58, 1 << 59, 1<<59 + 1, 1 << 60, 1 << 61, 1 << 62,
		-1, -2, -15, -16, -17, -256, -1 << 32, -1 << 59, math.MaxInt32, math.MinInt32,
		math.MaxInt, math.MaxInt - 1, math.MinInt, math.MinInt + 1, math.MinInt + 3,
	}
}

// wrongWords are words that no header has: beside one, with another tag, a mark too many, a shape too many, far above.
func wrongWords() []uint64 {
	var all []uint64
	known := map[uint64]bool{}
	for _, f := range fairs() {
		known[f.word] = true
	}
	add := func(words ...uint64) {
		for _, w := range words {
			if !known[w] {
				all = append(all, w)
			}
		}
	}
	for w := range uint64(4096) {
		add(w)
	}
	for _, f := range fairs() {
		for bit := range 64 {
			add(f.word ^ 1<<bit)
		}
		for from := 9; from < 64; from++ {
			add(f.word|math.MaxUint64<<from, f.word+1<<from)
		}
		add(-f.word, ^f.word, f.word<<32, f.word*8, f.word+512)
	}
	for shape := uint64(16); shape < 1<<59; shape = shape*2 + shape%3 {
		for mark := range uint64(4) {
			add(8*(4*shape+mark)+6, 8*(4*(1<<59-shape)+mark)+6)
		}
	}
	for w := range uint64(64) {
		add(math.MaxUint64-w, math.MaxInt64-w, math.MaxInt64+w)
	}
	return append(all, goodWords()...)
}

// goodWords are words of layer 1 of every kind that is not bad.
func goodWords() []uint64 {
	all := []uint64{0, 1, word.Empty()}
	addresses := []int64{1, 2, 3, 13, 62, 63, 64, 1 << 12, 1<<24 - 2, 1<<24 - 1}
	scalars := []int64{0, 1, -1, 2, 62, 110, -1 << 59, -1<<59 + 1, -1<<59 + 13, 1<<59 - 1, 1<<59 - 2}
	for _, n := range addresses {
		all = append(all, 8*uint64(n), 8*uint64(n)+1)
	}
	for _, n := range scalars {
		plain := 8*uint64(n+1<<59) + 4
		all = append(all, plain, plain+1)
	}
	return all
}

func wrongTables() [][]api.Shape {
	return [][]api.Shape{
		nil, {}, {"x"}, {"ps", "x"}, {"x", "ps"}, {"P"}, {"-"}, {"p s"}, {"ppppppppp"}, {"p", "\xff"}, {"é"},
		slices.Repeat([]api.Shape{"p"}, 17), slices.Repeat([]api.Shape{"ps"}, 1000),
		append(slices.Repeat([]api.Shape{"s"}, 15), "sssssssss"), append(slices.Repeat([]api.Shape{"p"}, 15), "x"),
		{api.Shape(strings.Repeat("p", 65536))},
	}
}

// manyShapes are as many shapes as a table has at most; no two neighbours are of one size.
func manyShapes() []api.Shape {
	return []api.Shape{
		"", "p", "ss", "psp", "", "spspspsp", "s", "pp", "pppppppp", "psps", "p", "sssss", "", "pspsps", "ppppppp", "ps",
	}
}

// P4.1: Make and Of of every header that there is, and of the least and the greatest word by their numbers.
func TestMakeAndOf(t *testing.T) {
	for _, f := range fairs() {
		if w, errno := head.Make(f.head); w != f.word || errno != 0 {
			t.Errorf("Make(%v) = %d, %d; not %d", f.head, w, errno, f.word)
		}
		if x, ok := head.Of(f.word); x != f.head || !ok {
			t.Errorf("Of(%d) = %v, %v; not %v", f.word, x, ok, f.head)
		}
	}
	for w, x := range map[uint64]api.Head{
		6: {Shape: 0, Mark: 0}, 14: {Shape: 0, Mark: 1}, 22: {Shape: 0, Mark: 2}, 38: {Shape: 1, Mark: 0},
		110: {Shape: 3, Mark: 1}, 102: {Shape: 3, Mark: 0}, 486: {Shape: 15, Mark: 0}, 502: {Shape: 15, Mark: 2},
	} {
		if made, errno := head.Make(x); made != w || errno != 0 {
			t.Errorf("Make(%v) = %d, %d; not %d", x, made, errno, w)
		}
		if told, ok := head.Of(w); told != x || !ok {
			t.Errorf("Of(%d) = %v, %v; not %v", w, told, ok, x)
		}
	}
}

// P4.1: a shape, a mark, or both that there are not.
func TestMakeRefuses(t *testing.T) {
	refused := func(x api.Head) {
		if w, errno := head.Make(x); w != 0 || errno != 2 {
			t.Errorf("Make(%v) = %d, %d", x, w, errno)
		}
	}
	for _, shape := range wrongShapes() {
		for mark := range api.Mark(3) {
			refused(api.Head{Shape: shape, Mark: mark})
		}
		for _, mark := range wrongMarks() {
			refused(api.Head{Shape: shape, Mark: mark})
		}
	}
	for shape := range 16 {
		for _, mark := range wrongMarks() {
			refused(api.Head{Shape: shape, Mark: mark})
		}
	}
}

// P4.1: the words beside the least and the greatest one, a mark and a shape that there are not, other tags, others' words.
func TestOfRefuses(t *testing.T) {
	named := []uint64{0, 1, 2, 3, 4, 5, 7, 8, 13, 15, 21, 23, 30, 501, 503, 510, 518, 526, 534, math.MaxUint64 - 1}
	for _, w := range append(wrongWords(), named...) {
		if x, ok := head.Of(w); x != (api.Head{}) || ok {
			t.Errorf("Of(%d) = %v, %v", w, x, ok)
		}
	}
}

// P4.1: the same header with each mark, its own among them.
func TestMarked(t *testing.T) {
	for _, f := range fairs() {
		for mark := range api.Mark(3) {
			want := 8*(4*uint64(f.head.Shape)+uint64(mark)) + 6
			if w, errno := head.Marked(f.word, mark); w != want || errno != 0 {
				t.Errorf("Marked(%d, %d) = %d, %d; not %d", f.word, mark, w, errno, want)
			}
		}
	}
}

// P4.1: no mark, no header, neither.
func TestMarkedRefuses(t *testing.T) {
	refused := func(w uint64, m api.Mark) {
		if marked, errno := head.Marked(w, m); marked != 0 || errno != 2 {
			t.Errorf("Marked(%d, %d) = %d, %d", w, m, marked, errno)
		}
	}
	for _, f := range fairs() {
		for _, m := range wrongMarks() {
			refused(f.word, m)
		}
	}
	for _, w := range wrongWords() {
		for _, m := range []api.Mark{0, 1, 2, 3, -1, math.MaxInt, math.MinInt} {
			refused(w, m)
		}
	}
}

// P4.2: of every header, in a table that has just its shape and in the longest one; a mark changes nothing.
func TestSize(t *testing.T) {
	many := manyShapes()
	for _, f := range fairs() {
		want := 2 + len(many[f.head.Shape])
		for _, l := range [][]api.Shape{many, many[:f.head.Shape+1], many[: f.head.Shape+1 : f.head.Shape+1]} {
			before := slices.Clone(many)
			if n, errno := head.Size(f.word, l); n != want || errno != 0 {
				t.Errorf("Size(%d, %q) = %d, %d; not %d", f.word, l, n, errno, want)
			}
			if !slices.Equal(before, many) {
				t.Fatalf("Size(%d, ..) changed the table to %q", f.word, many)
			}
		}
	}
}

// P4.2: a table that is one shape short, or more.
func TestSizeRefusesShapes(t *testing.T) {
	many := manyShapes()
	for _, f := range fairs() {
		for length := 1; length <= f.head.Shape; length++ {
			if n, errno := head.Size(f.word, many[:length]); n != 0 || errno != 130 {
				t.Errorf("Size(%d, %q) = %d, %d", f.word, many[:length], n, errno)
			}
		}
	}
}

// P4.2: a table that may not be is told ahead of a shape that it has not.
func TestSizeRefusesTables(t *testing.T) {
	for _, f := range fairs() {
		for _, l := range wrongTables() {
			if n, errno := head.Size(f.word, l); n != 0 || errno != 2 {
				t.Errorf("Size(%d, %.99q) = %d, %d", f.word, l, n, errno)
			}
		}
	}
}

// P4.2: a word that is no header is told whatever the table, be it one that has not the shape that the word seems to tell.
func TestSizeRefusesWords(t *testing.T) {
	for _, w := range wrongWords() {
		for _, l := range append(wrongTables()[:3:3], manyShapes(), []api.Shape{"p"}, []api.Shape{""}) {
			if n, errno := head.Size(w, l); n != 0 || errno != 2 {
				t.Errorf("Size(%d, %q) = %d, %d", w, l, n, errno)
			}
		}
	}
}

// P4.2: each mark has its name, nothing else has one.
func TestName(t *testing.T) {
	for mark, want := range []string{"white", "grey", "black"} {
		if name, ok := head.Name(api.Mark(mark)); name != want || !ok {
			t.Errorf("Name(%d) = %q, %v; not %q", mark, name, ok, want)
		}
	}
	for _, m := range wrongMarks() {
		if name, ok := head.Name(m); name != "" || ok {
			t.Errorf("Name(%d) = %q, %v", m, name, ok)
		}
	}
}

// P4.2: every header's text; shapes of one digit and of two.
func TestText(t *testing.T) {
	for _, f := range fairs() {
		if s, errno := head.Text(f.word); s != f.text || errno != 0 {
			t.Errorf("Text(%d) = %q, %d; not %q", f.word, s, errno, f.text)
		}
	}
	for w, want := range map[uint64]string{6: "0 white", 110: "3 grey", 342: "10 black", 502: "15 black"} {
		if s, errno := head.Text(w); s != want || errno != 0 {
			t.Errorf("Text(%d) = %q, %d; not %q", w, s, errno, want)
		}
	}
	for _, w := range wrongWords() {
		if s, errno := head.Text(w); s != "" || errno != 2 {
			t.Errorf("Text(%d) = %q, %d", w, s, errno)
		}
	}
}

// P4.3: layer 1 knows no header's word, and of its own words none is a header's.
func TestHeadersAreBadWords(t *testing.T) {
	for _, f := range fairs() {
		w, _ := head.Make(f.head)
		if x := word.Of(w); x != (api.Word{}) {
			t.Errorf("word.Of(Make(%v)) = %v", f.head, x)
		}
	}
	for _, w := range goodWords() {
		if x := word.Of(w); x.Kind == api.WordBad {
			t.Errorf("word.Of(%d) is bad", w)
		}
		if x, ok := head.Of(w); ok {
			t.Errorf("Of(%d) = %v: layer 1 knows it", w, x)
		}
	}
	for w := range uint64(1 << 16) {
		if _, ok := head.Of(w); ok && word.Of(w).Kind != api.WordBad {
			t.Errorf("%d is a header's word and layer 1's", w)
		}
	}
}

// P4.3: each two headers, held against each other; Of tells each apart again.
func TestHeadersAreTold(t *testing.T) {
	seen := map[uint64]api.Head{}
	for _, f := range fairs() {
		w, _ := head.Make(f.head)
		if other, ok := seen[w]; ok {
			t.Errorf("%v and %v both have the word %d", other, f.head, w)
		}
		seen[w] = f.head
		if x, ok := head.Of(w); x != f.head || !ok {
			t.Errorf("Of(Make(%v)) = %v, %v", f.head, x, ok)
		}
	}
	for w := range uint64(4096) {
		x, ok := head.Of(w)
		if _, made := seen[w]; ok != made {
			t.Errorf("Of(%d) = %v, %v, made: %v", w, x, ok, made)
		}
		if !ok {
			continue
		}
		if again, errno := head.Make(x); again != w || errno != 0 {
			t.Errorf("Make(Of(%d)) = %d, %d", w, again, errno)
		}
	}
}

// P4.3: the shape stays, the mark is the new one, and with the old mark the word is itself again.
func TestMarkedChangesTheMarkAlone(t *testing.T) {
	for _, f := range fairs() {
		for mark := range api.Mark(3) {
			w, _ := head.Marked(f.word, mark)
			if x, ok := head.Of(w); x != (api.Head{Shape: f.head.Shape, Mark: mark}) || !ok {
				t.Errorf("Of(Marked(%d, %d)) = %v, %v", f.word, mark, x, ok)
			}
			if back, errno := head.Marked(w, f.head.Mark); back != f.word || errno != 0 {
				t.Errorf("Marked(Marked(%d, %d), %d) = %d, %d", f.word, mark, f.head.Mark, back, errno)
			}
		}
	}
}

// P4.1 to P4.3: the document's examples.
func TestExamples(t *testing.T) {
	if w, errno := head.Make(api.Head{Shape: 3, Mark: api.MarkGrey}); w != 110 || errno != api.OK {
		t.Error("Make(3, grey)", w, errno)
	}
	if x, ok := head.Of(8); x != (api.Head{}) || ok {
		t.Error("Of(8)", x, ok)
	}
	if w, errno := head.Marked(110, api.MarkWhite); w != 102 || errno != api.OK {
		t.Error("Marked(110, white)", w, errno)
	}
	if n, errno := head.Size(110, []api.Shape{"p", "p", "p", "ps"}); n != 4 || errno != api.OK {
		t.Error("Size(110, p p p ps)", n, errno)
	}
	if n, errno := head.Size(110, []api.Shape{"p"}); n != 0 || errno != api.ErrShape {
		t.Error("Size(110, p)", n, errno)
	}
	if s, errno := head.Text(110); s != "3 grey" || errno != api.OK {
		t.Error("Text(110)", s, errno)
	}
}
