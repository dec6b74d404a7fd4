package shape_test

import (
	"math"
	"regexp"
	"slices"
	"strings"
	"testing"

	"lapidary/api"
	"lapidary/shape"
)

// fairShapes are all shapes that there can be.
func fairShapes() []api.Shape {
	all := []api.Shape{""}
	for begin, length := 0, 0; length < 8; length++ {
		end := len(all)
		for _, s := range all[begin:end] {
			all = append(all, s+"p", s+"s")
		}
		begin = end
	}
	return all
}

func wrongShapes() []api.Shape {
	return []api.Shape{
		"x", "P", "S", "-", " ", "\x00", "\n", "0", "px", "xp", "pxs", "ps ", " ps", "p s", "p-", "-p", "--", "pP",
		"\xff", "p\xff", "\xffp", "p\xc3", "\xc3\xa9", "é", "ß", "pé", "ｐ", "ѕ", "р", "\ufffd", "\U0001f48e",
		"ppppppppp", "sssssssss", "pspspspsp", "ppppppppx", "xpppppppp", "pppppppé",
		api.Shape(strings.Repeat("p", 16)), api.Shape(strings.Repeat("s", 256)), api.Shape(strings.Repeat("p", 65536)),
		api.Shape(strings.Repeat("p", 1<<20)), api.Shape(strings.Repeat("é", 1000)),
	}
}

func fairTables() [][]api.Shape {
	tables := [][]api.Shape{
		{"ps", ""}, {"", "ps"}, {"", ""}, {"p", "p", "p"}, {"s", "", "pppppppp", "ps"}, {"ssssssss", "p"},
		slices.Repeat([]api.Shape{""}, 16), slices.Repeat([]api.Shape{"ps"}, 16), slices.Repeat([]api.Shape{"spspspsp"}, 16),
		{"", "p", "s", "pp", "ps", "sp", "ss", "ppp", "pps", "psp", "pss", "spp", "pspspsps", "sps", "ssp", "sss"},
		append(slices.Repeat([]api.Shape{""}, 15), "pp"),
	}
	for _, s := range fairShapes() {
		tables = append(tables, []api.Shape{s})
	}
	for n := 1; n <= 16; n++ {
		tables = append(tables, fairShapes()[n:2*n])
	}
	return tables
}

func wrongTables() [][]api.Shape {
	tables := [][]api.Shape{
		nil, {}, slices.Repeat([]api.Shape{""}, 17), slices.Repeat([]api.Shape{"ps"}, 17),
		slices.Repeat([]api.Shape{"p"}, 18), slices.Repeat([]api.Shape{"p"}, 32), slices.Repeat([]api.Shape{"s"}, 65536),
	}
	for _, s := range wrongShapes() {
		tables = append(tables, []api.Shape{s}, []api.Shape{"ps", s}, []api.Shape{s, "ps"}, []api.Shape{"", s, "p"},
			append(slices.Repeat([]api.Shape{"p"}, 15), s))
	}
	return tables
}

// outside are numbers that are no index of a list of n.
func outside(n int) []int {
	return []int{
		n, n + 1, n + 8, n + 256, n + 1<<32, -1, -2, -n - 1, math.MaxInt32, math.MinInt32,
		math.MaxInt, math.MaxInt - 1, math.MinInt, math.MinInt + 1,
	}
}

func kindOf(letter byte) api.Field {
	if letter == 's' {
		return 1
	}
	return 0
}

// P3.1: each shape that can be may stand in a table, at the least and at the greatest length of both.
func TestCheckTakesTables(t *testing.T) {
	for _, l := range fairTables() {
		if errno := shape.Check(l...); errno != 0 {
			t.Errorf("Check(%q) = %d", l, errno)
		}
	}
}

// P3.1: no shape, one too many, one that may not be wherever it stands.
func TestCheckRefusesOthers(t *testing.T) {
	for _, l := range wrongTables() {
		if errno := shape.Check(l...); errno != 2 {
			t.Errorf("Check(%.99q) = %d", l, errno)
		}
	}
}

// P3.1: two words, and one for each field.
func TestSize(t *testing.T) {
	for _, l := range fairTables() {
		for i, s := range l {
			if n, errno := shape.Size(l, i); n != 2+len(s) || errno != 0 {
				t.Errorf("Size(%q, %d) = %d, %d", l, i, n, errno)
			}
		}
	}
}

// P3.1: numbers that no shape has.
func TestSizeRefusesShapes(t *testing.T) {
	for _, l := range fairTables() {
		for _, i := range outside(len(l)) {
			if n, errno := shape.Size(l, i); n != 0 || errno != 130 {
				t.Errorf("Size(%q, %d) = %d, %d", l, i, n, errno)
			}
		}
	}
}

// P3.1: a wrong table is told ahead of a wrong number.
func TestSizeRefusesTables(t *testing.T) {
	for _, l := range wrongTables() {
		for _, i := range append(outside(len(l)), 0, 1, 16) {
			if n, errno := shape.Size(l, i); n != 0 || errno != 2 {
				t.Errorf("Size(%.99q, %d) = %d, %d", l, i, n, errno)
			}
		}
	}
}

// P3.1: the greatest size, wherever it stands.
func TestMost(t *testing.T) {
	for _, l := range fairTables() {
		want := 0
		for _, s := range l {
			want = max(want, 2+len(s))
		}
		if n, errno := shape.Most(l...); n != want || errno != 0 {
			t.Errorf("Most(%q) = %d, %d", l, n, errno)
		}
	}
	for at := range 16 {
		l := slices.Repeat([]api.Shape{"s"}, 16)
		l[at] = "psp"
		if n, errno := shape.Most(l...); n != 5 || errno != 0 {
			t.Errorf("Most(%q) = %d, %d", l, n, errno)
		}
	}
	for _, l := range wrongTables() {
		if n, errno := shape.Most(l...); n != 0 || errno != 2 {
			t.Errorf("Most(%.99q) = %d, %d", l, n, errno)
		}
	}
}

// P3.2: Kind and Is of every field that there is, with its own kind, the other one, and kinds that are none.
func TestKindAndIs(t *testing.T) {
	for _, l := range fairTables() {
		for i, s := range l {
			for j := range len(s) {
				want := kindOf(s[j])
				if kind, errno := shape.Kind(l, i, j); kind != want || errno != 0 {
					t.Errorf("Kind(%q, %d, %d) = %d, %d", l, i, j, kind, errno)
				}
				if errno := shape.Is(l, i, j, want); errno != 0 {
					t.Errorf("Is(%q, %d, %d, %d) = %d", l, i, j, want, errno)
				}
				for _, kind := range []api.Field{1 - want, 2, 3, -1, 's', 'p', 1 << 32, math.MaxInt, math.MinInt} {
					if errno := shape.Is(l, i, j, kind); errno != 132 {
						t.Errorf("Is(%q, %d, %d, %d) = %d", l, i, j, kind, errno)
					}
				}
			}
		}
	}
}

// refuses asks Kind and Is for one error, whatever kind Is is asked for.
func refuses(t *testing.T, l []api.Shape, i, j int, want api.Errno) {
	t.Helper()
	if kind, errno := shape.Kind(l, i, j); kind != 0 || errno != want {
		t.Errorf("Kind(%.99q, %d, %d) = %d, %d; not %d", l, i, j, kind, errno, want)
	}
	for _, kind := range []api.Field{0, 1, 2, -1, math.MaxInt, math.MinInt} {
		if errno := shape.Is(l, i, j, kind); errno != want {
			t.Errorf("Is(%.99q, %d, %d, %d) = %d; not %d", l, i, j, kind, errno, want)
		}
	}
}

// P3.2: numbers that no field has, told ahead of the kind; a shape without fields has none.
func TestKindAndIsRefuseFields(t *testing.T) {
	for _, l := range fairTables() {
		for i, s := range l {
			for _, j := range outside(len(s)) {
				refuses(t, l, i, j, 131)
			}
		}
	}
}

// P3.2: numbers that no shape has, told ahead of the field.
func TestKindAndIsRefuseShapes(t *testing.T) {
	for _, l := range fairTables() {
		for _, i := range outside(len(l)) {
			for _, j := range []int{0, 1, 8, -1, math.MaxInt, math.MinInt} {
				refuses(t, l, i, j, 130)
			}
		}
	}
}

// P3.2: a wrong table is told ahead of all else.
func TestKindAndIsRefuseTables(t *testing.T) {
	for _, l := range wrongTables() {
		for _, i := range []int{0, 1, 15, 16, 17, -1, math.MaxInt, math.MinInt} {
			for _, j := range []int{0, 8, -1, math.MaxInt, math.MinInt} {
				refuses(t, l, i, j, 2)
			}
		}
	}
}

type field struct {
	at   int
	kind api.Field
}

func fieldsOf(s api.Shape) []field {
	var want []field
	for i := range len(s) {
		want = append(want, field{i, kindOf(s[i])})
	}
	return want
}

// P3.2: All tells each field by rising numbers, as often as it is gone over.
func TestAll(t *testing.T) {
	for _, s := range fairShapes() {
		all := shape.All(s)
		for range 3 {
			var got []field
			for at, kind := range all {
				got = append(got, field{at, kind})
			}
			if want := fieldsOf(s); !slices.Equal(got, want) {
				t.Errorf("All(%q) tells %v", s, got)
			}
		}
	}
}

// P3.2: All is left at each field, and is whole when it is gone over again.
func TestAllIsLeft(t *testing.T) {
	for _, s := range fairShapes() {
		all := shape.All(s)
		for leave := range len(s) {
			var got []field
			for at, kind := range all {
				got = append(got, field{at, kind})
				if at == leave {
					break
				}
			}
			if want := fieldsOf(s)[:leave+1]; !slices.Equal(got, want) {
				t.Errorf("All(%q), left at %d, tells %v", s, leave, got)
			}
		}
		n := 0
		for range all {
			n++
		}
		if n != len(s) {
			t.Errorf("All(%q), left and gone over again, tells %d", s, n)
		}
	}
}

// P3.2: All may be gone over while it is gone over.
func TestAllWithinAll(t *testing.T) {
	all := shape.All("pspps")
	var got []field
	for range all {
		for at, kind := range all {
			got = append(got, field{at, kind})
		}
	}
	if want := slices.Repeat(fieldsOf("pspps"), 5); !slices.Equal(got, want) {
		t.Errorf("within itself it tells %v", got)
	}
}

// P3.2: of a shape that may not be, All is there and tells nothing.
func TestAllOfWrongShapes(t *testing.T) {
	for _, s := range wrongShapes() {
		all := shape.All(s)
		if all == nil {
			t.Fatalf("All(%.99q) is not there", s)
		}
		for at, kind := range all {
			t.Errorf("All(%.99q) tells %d, %d", s, at, kind)
		}
	}
}

// textOf writes as the document does.
func textOf(l []api.Shape) string {
	var parts []string
	for _, s := range l {
		if s == "" {
			s = "-"
		}
		parts = append(parts, string(s))
	}
	return strings.Join(parts, " ")
}

// P3.3: Text of every table, and what it refuses.
func TestText(t *testing.T) {
	for _, l := range fairTables() {
		if s, errno := shape.Text(l...); s != textOf(l) || errno != 0 {
			t.Errorf("Text(%q) = %q, %d", l, s, errno)
		}
	}
	for _, l := range wrongTables() {
		if s, errno := shape.Text(l...); s != "" || errno != 2 {
			t.Errorf("Text(%.99q) = %.99q, %d", l, s, errno)
		}
	}
}

// read holds Read against what the document calls a table's text.
func read(t *testing.T, form *regexp.Regexp, s string) {
	t.Helper()
	var want []api.Shape
	errno := api.Errno(2)
	if form.MatchString(s) {
		errno = 0
		for _, part := range strings.Split(s, " ") {
			want = append(want, api.Shape(strings.TrimPrefix(part, "-")))
		}
	}
	if l, got := shape.Read(s); !slices.Equal(l, want) || got != errno {
		t.Errorf("Read(%.99q) = %.99q, %d; not %q, %d", s, l, got, want, errno)
	}
}

func tableForm() *regexp.Regexp {
	return regexp.MustCompile(`\A(-|[ps]{1,8})( (-|[ps]{1,8})){0,15}\z`)
}

// P3.3: Read of every short text of letters that a table's text has, and of some that it has not.
func TestReadShortTexts(t *testing.T) {
	form := tableForm()
	texts := []string{""}
	for range 6 {
		for _, s := range texts {
			read(t, form, s)
		}
		var longer []string
		for _, s := range texts {
			for _, letter := range []string{"p", "s", "-", " ", "x", "\xff"} {
				longer = append(longer, s+letter)
			}
		}
		texts = longer
	}
}

// P3.3: Read at the bounds, and of texts that are no table's.
func TestReadWrongTexts(t *testing.T) {
	form := tableForm()
	for _, s := range []string{
		"", " ", "  ", "-", "--", "- -", "-  -", " -", "- ", " ps", "ps ", "ps  p", "ps p ", "  ps", "ps  ",
		"p\ts", "ps\tp", "ps\n", "\nps", "ps\np", "ps\r\n", "ps,p", "ps;p", "ps\u00a0p", "ps\u2003p", "\ufeffps",
		"p-", "-p", "- p-", "PS", "Ps", "0", "1", "null", "[ps]", "\x00", "ps\x00", "\xff", "ps \xff", "\xff ps", "p\xc3 s",
		"é", "pé", "\ufffd", "−", "–", "ｐ",
		"pppppppp", "ppppppppp", "- ssssssss", "- sssssssss", "pppppppp pppppppp", "ppppppppp p",
	} {
		read(t, form, s)
	}
	for _, part := range []string{"-", "p", "ps", "sssssssp"} {
		for _, n := range []int{1, 2, 15, 16, 17, 18, 32, 33, 1000} {
			whole := strings.TrimSuffix(strings.Repeat(part+" ", n), " ")
			read(t, form, whole)
			read(t, form, whole+" ")
			read(t, form, " "+whole)
			read(t, form, whole+"x")
		}
	}
	for _, letter := range []string{" ", "p", "-", "x", "p ", "é", "\xff"} {
		read(t, form, strings.Repeat(letter, 1<<20))
	}
	for _, s := range wrongShapes() {
		read(t, form, string(s))
		read(t, form, "p "+string(s))
		read(t, form, string(s)+" p")
	}
}

// P3.4: Read of Text is the table, Text of Read the text.
func TestTextAndReadTurnBack(t *testing.T) {
	for _, l := range fairTables() {
		s, errno := shape.Text(l...)
		if errno != 0 {
			t.Fatalf("Text(%q): %d", l, errno)
		}
		back, errno := shape.Read(s)
		if !slices.Equal(back, l) || errno != 0 {
			t.Errorf("Read(Text(%q)) = %q, %d", l, back, errno)
		}
		again, errno := shape.Text(back...)
		if again != s || errno != 0 {
			t.Errorf("Text(Read(%q)) = %q, %d", s, again, errno)
		}
	}
}

// P3.4: Size is 2 and as many as All goes over.
func TestSizeCountsAll(t *testing.T) {
	for _, s := range fairShapes() {
		want := 2
		for range shape.All(s) {
			want++
		}
		if n, errno := shape.Size([]api.Shape{"p", s}, 1); n != want || errno != 0 {
			t.Errorf("Size of %q is %d, %d; not %d", s, n, errno, want)
		}
	}
}

// Rules: what is handed in is not changed, spare room behind it included.
func TestTablesAreLeftAsTheyAre(t *testing.T) {
	whole := []api.Shape{"sp", "", "ps", "spare", "room"}
	before := slices.Clone(whole)
	l := whole[:3]
	shape.Check(l...)
	shape.Size(l, 2)
	shape.Kind(l, 0, 1)
	shape.Is(l, 2, 0, 0)
	shape.Most(l...)
	shape.Text(l...)
	if !slices.Equal(whole, before) {
		t.Errorf("%q became %q", before, whole)
	}
}

// Rules: an answer is new memory, and what is done to it is not seen in the next one.
func TestReadAnswersNewTables(t *testing.T) {
	first, _ := shape.Read("ps - s")
	first = append(first[:0], "x", "y", "z")
	second, errno := shape.Read("ps - s")
	if !slices.Equal(second, []api.Shape{"ps", "", "s"}) || errno != 0 {
		t.Errorf("behind %q Read answers %q, %d", first, second, errno)
	}
}

// The examples of the chapter.
func TestExamples(t *testing.T) {
	two, one := []api.Shape{"ps", ""}, []api.Shape{"ps"}
	for i, want := range []int{4, 2} {
		if n, errno := shape.Size(two, i); n != want || errno != api.OK {
			t.Error(i, n, errno)
		}
	}
	if n, errno := shape.Size(two, 2); n != 0 || errno != api.ErrShape {
		t.Error(n, errno)
	}
	if kind, errno := shape.Kind(one, 0, 1); kind != api.FieldScalar || errno != api.OK {
		t.Error(kind, errno)
	}
	if errno := shape.Is(one, 0, 1, api.FieldPointer); errno != api.ErrKind {
		t.Error(errno)
	}
	if kind, errno := shape.Kind(one, 0, 2); kind != 0 || errno != api.ErrField {
		t.Error(kind, errno)
	}
	if s, errno := shape.Text(two...); s != "ps -" || errno != api.OK {
		t.Error(s, errno)
	}
	if l, errno := shape.Read("px"); l != nil || errno != api.ErrArg {
		t.Error(l, errno)
	}
	if l, errno := shape.Read("- ps"); !slices.Equal(l, []api.Shape{"", "ps"}) || errno != api.OK {
		t.Error(l, errno)
	}
}
