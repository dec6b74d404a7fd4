package op_test

import (
	"fmt"
	"math"
	"math/big"
	"regexp"
	"slices"
	"strings"
	"testing"

	"lapidary/api"
	"lapidary/op"
)

const (
	maxScalar = int64(1)<<59 - 1
	minScalar = -(int64(1) << 59)
)

// row is a kind of the document's table: its number, its text's first word, and what it names, a letter each: F is its field, S its shape.
type row struct {
	kind  api.OpKind
	name  string
	names string
}

func rows() []row {
	return []row{
		{1, "alloc", "AS"}, {2, "get", "AFB"}, {3, "put", "AFB"}, {4, "cas", "AFBC"}, {5, "geti", "AF"}, {6, "puti", "AFX"},
		{7, "casi", "AFXY"}, {8, "eq", "AB"}, {9, "move", "AB"}, {10, "drop", "A"}, {11, "collect", ""},
	}
}

func rowOf(t *testing.T, name string) row {
	t.Helper()
	for _, r := range rows() {
		if r.name == name {
			return r
		}
	}
	t.Fatal("no kind is named", name)
	return row{}
}

// with is an operation of which one number is another one.
func with(x api.Op, letter rune, n int64) api.Op {
	switch letter {
	case 'A':
		x.A = int(n)
	case 'B':
		x.B = int(n)
	case 'C':
		x.C = int(n)
	case 'F':
		x.Field = int(n)
	case 'S':
		x.Shape = int(n)
	case 'X':
		x.X = n
	case 'Y':
		x.Y = n
	}
	return x
}

const letters = "ABCFSXY"

// make is an operation of a kind, with the numbers that it names.
func (r row) make(numbers ...int64) api.Op {
	x := api.Op{Kind: r.kind}
	for i, letter := range r.names {
		x = with(x, letter, numbers[i])
	}
	return x
}

func (r row) text(numbers ...int64) string {
	s := r.name
	for _, n := range numbers {
		s += fmt.Sprint(" ", n)
	}
	return s
}

// same is as many times the number as the kind names numbers.
func (r row) same(n int64) []int64 { return slices.Repeat([]int64{n}, len(r.names)) }

// wildNumbers are edges, one beyond them, and numbers far away.
func wildNumbers() []int64 {
	return []int64{
		0, 1, 2, 5, 6, 7, 9, 10, 15, 16, 99, 100, 255, 256, -1, -2, -6, -9, -10, -256, 1 << 31, 1 << 32, -1 << 31, -1 << 32,
		maxScalar, maxScalar + 1, minScalar, minScalar - 1, math.MaxInt64, math.MaxInt64 - 1, math.MinInt64, math.MinInt64 + 1,
	}
}

func wrongKinds() []api.OpKind {
	return []api.OpKind{0, -1, 12, 13, -2, -11, 255, 256, 257, 1 << 32, 1<<32 + 1, math.MaxInt, math.MaxInt - 1, math.MinInt, math.MinInt + 1}
}

func fairTables() [][]api.Shape {
	return [][]api.Shape{{"p"}, {""}, {"ps", ""}, {"s", "p", "pspspsps"}, slices.Repeat([]api.Shape{"p"}, 15), slices.Repeat([]api.Shape{"ssssssss"}, 16)}
}

func wrongTables() [][]api.Shape {
	return [][]api.Shape{
		nil, {}, slices.Repeat([]api.Shape{"p"}, 17), slices.Repeat([]api.Shape{""}, 1000), {"x"}, {"p", "P"}, {"-"}, {"p s"},
		{"ppppppppp"}, {"p", "sssssssss", "s"}, {"\xff"}, {"p\xff"}, {api.Shape(strings.Repeat("p", 1<<20))},
	}
}

func check(t *testing.T, l []api.Shape, x api.Op, want api.Errno) {
	t.Helper()
	if errno := op.Check(l, x); errno != want {
		t.Errorf("Check(%.99q, %+v) = %d; not %d", l, x, errno, want)
	}
}

// P8.1: each kind with 0 throughout, in each table.
func TestCheckTakesEachKind(t *testing.T) {
	for _, l := range fairTables() {
		for _, r := range rows() {
			check(t, l, r.make(r.same(0)...), 0)
		}
	}
}

// P8.1: a kind that is none, with nothing else or with what some kind names, right or wrong.
func TestCheckRefusesKinds(t *testing.T) {
	for _, k := range wrongKinds() {
		check(t, []api.Shape{"p"}, api.Op{Kind: k}, 180)
		for _, letter := range letters {
			for _, n := range []int64{1, -1, math.MaxInt64, math.MinInt64} {
				check(t, []api.Shape{"p"}, with(api.Op{Kind: k}, letter, n), 180)
			}
		}
	}
}

// unnamed goes over all operations of which one number, and that alone, is not 0 though the kind does not name it.
func unnamed(do func(r row, x api.Op)) {
	for _, r := range rows() {
		for _, letter := range letters {
			for _, n := range wildNumbers() {
				if n == 0 || strings.ContainsRune(r.names, letter) {
					continue
				}
				do(r, with(r.make(r.same(0)...), letter, n))
				do(r, with(r.make(r.same(1)...), letter, n))
			}
		}
	}
}

// P8.1: what a kind does not name, one at a time.
func TestCheckRefusesWhatIsNotNamed(t *testing.T) {
	unnamed(func(_ row, x api.Op) { check(t, []api.Shape{"p", "ps"}, x, 180) })
}

// P8.1: each slot that a kind names, from the first to the last one, and beyond.
func TestCheckSlots(t *testing.T) {
	for _, r := range rows() {
		for _, letter := range "ABC" {
			if !strings.ContainsRune(r.names, letter) {
				continue
			}
			fair := r.make(r.same(0)...)
			for slot := range int64(6) {
				check(t, []api.Shape{"p"}, with(fair, letter, slot), 0)
			}
			for _, slot := range []int64{6, 7, 8, 64, 256, 1 << 32, -1, -2, -6, math.MaxInt64, math.MaxInt64 - 1, math.MinInt64, math.MinInt64 + 1} {
				check(t, []api.Shape{"p"}, with(fair, letter, slot), 181)
			}
		}
	}
}

// P8.1: the first and the last shape of each table, and beyond.
func TestCheckShapes(t *testing.T) {
	for _, l := range fairTables() {
		n := int64(len(l))
		for s := range n {
			check(t, l, api.Op{Kind: 1, A: 5, Shape: int(s)}, 0)
		}
		for _, s := range []int64{n, n + 1, n + 16, 17, n + 1<<32, -1, -2, -n, math.MaxInt64, math.MinInt64} {
			check(t, l, api.Op{Kind: 1, A: 5, Shape: int(s)}, 130)
		}
	}
}

// P8.1: no number of a field is refused: which fields there are hangs on what a slot holds.
func TestCheckTakesFields(t *testing.T) {
	for _, r := range rows() {
		for _, n := range wildNumbers() {
			if strings.ContainsRune(r.names, 'F') {
				check(t, []api.Shape{""}, with(r.make(r.same(0)...), 'F', n), 0)
			}
		}
	}
}

// P8.1: the greatest and the least scalar, in X and in Y, and beyond.
func TestCheckScalars(t *testing.T) {
	for _, name := range []string{"puti", "casi"} {
		r := rowOf(t, name)
		for _, letter := range "XY" {
			if !strings.ContainsRune(r.names, letter) {
				continue
			}
			fair := r.make(r.same(0)...)
			for _, n := range []int64{maxScalar, maxScalar - 1, minScalar, minScalar + 1, 0, 1, -1, 1 << 32} {
				check(t, []api.Shape{"p"}, with(fair, letter, n), 0)
			}
			for _, n := range []int64{maxScalar + 1, maxScalar + 2, minScalar - 1, minScalar - 2, 1 << 60, -1 << 60, 1 << 62, math.MaxInt64, math.MinInt64} {
				check(t, []api.Shape{"p"}, with(fair, letter, n), 182)
			}
		}
	}
	check(t, []api.Shape{"p"}, api.Op{Kind: 7, X: maxScalar, Y: minScalar}, 0)
	check(t, []api.Shape{"p"}, api.Op{Kind: 7, X: minScalar, Y: maxScalar}, 0)
	check(t, []api.Shape{"p"}, api.Op{Kind: 7, X: maxScalar + 1, Y: minScalar - 1}, 182)
}

// P8.1: a table that may not be is told ahead of all else.
func TestCheckRefusesTables(t *testing.T) {
	for _, l := range wrongTables() {
		for _, r := range rows() {
			check(t, l, r.make(r.same(0)...), 2)
			check(t, l, r.make(r.same(-1)...), 2)
			check(t, l, r.make(r.same(math.MaxInt64)...), 2)
		}
		for _, k := range wrongKinds() {
			check(t, l, api.Op{Kind: k}, 2)
			check(t, l, api.Op{Kind: k, A: 6, Shape: -1, X: math.MaxInt64}, 2)
		}
		check(t, l, api.Op{Kind: 11, A: 1}, 2)
	}
}

// P8.1: of several things that are wrong at once the first one of the document's order is answered.
func TestOrderOfErrors(t *testing.T) {
	l := []api.Shape{"p", "s"}
	for _, x := range []api.Op{
		{Kind: 1, A: 6, B: 1}, {Kind: 1, A: -1, Shape: 2, X: 1}, {Kind: 1, Shape: 2, Field: 1}, {Kind: 4, A: 6, Shape: 2},
		{Kind: 6, X: math.MaxInt64, Y: 1}, {Kind: 7, A: 6, X: math.MaxInt64, C: 6}, {Kind: 10, A: 6, B: 6}, {Kind: 5, X: math.MinInt64},
		{Kind: 12, A: 6, Shape: 2, X: math.MaxInt64}, {Kind: 0, B: -1}, {Kind: 11, A: 6}, {Kind: 2, C: 6}, {Kind: 8, Field: -1, A: 6},
	} {
		check(t, l, x, 180)
	}
	for _, x := range []api.Op{
		{Kind: 1, A: 6, Shape: 2}, {Kind: 1, A: -1, Shape: -1}, {Kind: 6, A: 6, X: math.MaxInt64}, {Kind: 7, A: -1, X: maxScalar + 1},
		{Kind: 7, A: 6, Y: minScalar - 1}, {Kind: 4, C: 6, Field: -1},
	} {
		check(t, l, x, 181)
	}
	check(t, l, api.Op{Kind: 1, A: 5, Shape: 2}, 130)
	check(t, l, api.Op{Kind: 6, A: 5, Field: -1, X: maxScalar + 1}, 182)
}

// checked is what the document's words answer, gone through by hand.
func checked(shapes int, x api.Op) api.Errno {
	slot := func(n int) bool { return n >= 0 && n <= 5 }
	scalar := func(n int64) bool { return n >= minScalar && n <= maxScalar }
	for _, r := range rows() {
		if r.kind != x.Kind {
			continue
		}
		for _, letter := range letters {
			if !strings.ContainsRune(r.names, letter) && with(x, letter, 0) != x {
				return 180
			}
		}
		switch {
		case !slot(x.A), !slot(x.B), !slot(x.C):
			return 181
		case x.Kind == 1 && (x.Shape < 0 || x.Shape >= shapes):
			return 130
		case !scalar(x.X), !scalar(x.Y):
			return 182
		}
		return 0
	}
	return 180
}

// P8.1: operations of mixed numbers, fair or wrong, in all kinds.
func TestCheckOfMixedNumbers(t *testing.T) {
	l := []api.Shape{"p", "s", ""}
	wild := wildNumbers()
	seed := uint64(1)
	draw := func(n int) int {
		seed = seed*6364136223846793005 + 1442695040888963407
		return int(seed >> 33 % uint64(n))
	}
	met := map[api.Errno]int{}
	for range 200000 {
		x := api.Op{Kind: api.OpKind(draw(14) - 1)}
		for _, letter := range letters {
			named := x.Kind > 0 && x.Kind < 12 && strings.ContainsRune(rows()[x.Kind-1].names, letter)
			switch pick := draw(40); {
			case named && pick < 10:
				x = with(x, letter, wild[draw(len(wild))])
			case named:
				x = with(x, letter, int64(pick%6))
			case pick == 0:
				x = with(x, letter, wild[draw(len(wild))])
			}
		}
		want := checked(len(l), x)
		met[want]++
		if errno := op.Check(l, x); errno != want {
			t.Fatalf("Check(%+v) = %d; not %d", x, errno, want)
		}
	}
	for _, errno := range []api.Errno{0, 130, 180, 181, 182} {
		if met[errno] < 1000 {
			t.Errorf("%d was met %d times alone", errno, met[errno])
		}
	}
}

// P8.1: which kind of fields, of the kinds 2 to 7, whatever the numbers are; none of the others.
func TestField(t *testing.T) {
	want := map[api.OpKind]api.Field{2: 0, 3: 0, 4: 0, 5: 1, 6: 1, 7: 1}
	asks := func(x api.Op) {
		t.Helper()
		kind, is := want[x.Kind]
		if got, ok := op.Field(x); got != kind || ok != is {
			t.Errorf("Field(%+v) = %d, %v; not %d, %v", x, got, ok, kind, is)
		}
	}
	for _, r := range rows() {
		for _, n := range wildNumbers() {
			asks(r.make(r.same(n)...))
			asks(api.Op{Kind: r.kind, A: int(n), B: int(n), C: int(n), Field: int(n), Shape: int(n), X: n, Y: n})
		}
	}
	for _, k := range wrongKinds() {
		asks(api.Op{Kind: k})
		asks(api.Op{Kind: k, Field: 1})
	}
}

// P8.2: each kind's first word; none of what is no kind.
func TestName(t *testing.T) {
	for _, r := range rows() {
		if s, ok := op.Name(r.kind); s != r.name || !ok {
			t.Errorf("Name(%d) = %q, %v; not %q", r.kind, s, ok, r.name)
		}
	}
	if s, _ := op.Name(api.OpCasInt); s != "casi" {
		t.Errorf("Name(OpCasInt) = %q", s)
	}
	for _, k := range wrongKinds() {
		if s, ok := op.Name(k); s != "" || ok {
			t.Errorf("Name(%d) = %q, %v; there is none", k, s, ok)
		}
	}
}

// texts goes over operations of each kind with many numbers, each with its text as the document writes it.
func texts(do func(x api.Op, text string)) {
	for _, r := range rows() {
		for _, n := range wildNumbers() {
			do(r.make(r.same(n)...), r.text(r.same(n)...))
			for i := range r.names {
				numbers := r.same(3)
				numbers[i] = n
				do(r.make(numbers...), r.text(numbers...))
			}
		}
		do(r.make([]int64{10, 20, 30, 40}[:len(r.names)]...), r.text([]int64{10, 20, 30, 40}[:len(r.names)]...))
	}
}

// P8.2: Text of every kind, whatever its numbers are.
func TestText(t *testing.T) {
	texts(func(x api.Op, text string) {
		if s, errno := op.Text(x); s != text || errno != 0 {
			t.Errorf("Text(%+v) = %q, %d; not %q", x, s, errno, text)
		}
	})
}

// P8.2: Text of a kind that is none, and of what a kind does not name.
func TestTextRefuses(t *testing.T) {
	refuses := func(x api.Op) {
		t.Helper()
		if s, errno := op.Text(x); s != "" || errno != 180 {
			t.Errorf("Text(%+v) = %q, %d; not 180", x, s, errno)
		}
	}
	for _, k := range wrongKinds() {
		refuses(api.Op{Kind: k})
		refuses(api.Op{Kind: k, A: 1, Field: 2, X: 3})
	}
	unnamed(func(_ row, x api.Op) { refuses(x) })
}

// P8.2: Read of every kind's texts.
func TestRead(t *testing.T) {
	texts(func(x api.Op, text string) {
		if got, errno := op.Read(text); got != x || errno != 0 {
			t.Errorf("Read(%q) = %+v, %d; not %+v", text, got, errno, x)
		}
	})
}

func refusesRead(t *testing.T, s string) {
	t.Helper()
	if x, errno := op.Read(s); x != (api.Op{}) || errno != 186 {
		t.Errorf("Read(%.99q) = %+v, %d; not 186", s, x, errno)
	}
}

// P8.2: blanks where none may be, other white bytes, and words too few and too many, of each kind.
func TestReadRefusesOtherWords(t *testing.T) {
	for _, r := range rows() {
		whole := r.text(r.same(1)...)
		words := strings.Split(whole, " ")
		for i := range words {
			refusesRead(t, strings.Join(slices.Concat(words[:i], words[i+1:]), " "))
			refusesRead(t, strings.Join(slices.Concat(words[:i], []string{""}, words[i:]), " "))
			refusesRead(t, strings.Join(slices.Concat(words[:i], []string{"1"}, words[i:]), " "))
			refusesRead(t, strings.Join(slices.Concat(words[:i], []string{r.name}, words[i:]), " "))
			refusesRead(t, strings.Join(words[:i], " "))
			if i > 0 {
				refusesRead(t, strings.Join(words[:i], " ")+" ")
				for _, gap := range []string{"\t", "\n", "\r", "\v", "\f", "\x00", "  ", " \t", "\t ", ",", ";", "\u00a0", "\u2003", "\xa0"} {
					refusesRead(t, strings.Join(words[:i], " ")+gap+strings.Join(words[i:], " "))
				}
			}
		}
		for _, more := range []string{" ", "  ", "\t", "\n", "\r\n", "\x00", " 0", " 1", " -1", " x", " 0 0", " 0 ", "\xff", " \xff", "é", " " + r.name, ";", " ;"} {
			refusesRead(t, whole+more)
		}
		for _, ahead := range []string{" ", "  ", "\t", "\n", "\x00", "0", "0 ", "x ", "-", "\xff", "\ufeff", "é"} {
			refusesRead(t, ahead+whole)
		}
	}
}

// P8.2: a number in each place of each kind that is not written as numbers are.
func TestReadRefusesOtherNumbers(t *testing.T) {
	wrong := []string{
		"", "-", "+", "--1", "+5", "-0", "+0", "00", "01", "05", "-01", "-00", "007", "- 1", "1-", "5-", "1-1", "-+1", "+-1", "x", "1x", "x1", "0x1",
		"0b1", "0o7", "1_0", "1e1", "1.0", "1.", ".5", "1,0", "null", "@1", "A", "f", "-x", "\xff", "1\xff", "\xff1", "\x001", "1\x00", "\t1", "1\t", "1\n",
		"١", "１", "1１", "−1", "²", "9223372036854775808", "-9223372036854775809", "18446744073709551615", "18446744073709551616", "18446744073709551617",
		"-18446744073709551616", "9223372036854775817", "10000000000000000000", "99999999999999999999", "09223372036854775807", "-09223372036854775808",
		"36893488147419103233", strings.Repeat("0", 30), strings.Repeat("9", 1000), "0" + strings.Repeat("0", 1000) + "1", strings.Repeat("1", 1<<20), strings.Repeat("-", 1<<20),
	}
	for _, r := range rows() {
		for i := range r.names {
			for _, n := range wrong {
				words := strings.Split(r.text(r.same(1)...), " ")
				words[1+i] = n
				refusesRead(t, strings.Join(words, " "))
			}
		}
	}
}

// P8.2: words that are no kind's name, with as many numbers as some kind has, or none.
func TestReadRefusesOtherNames(t *testing.T) {
	names := []string{
		"", "-", "0", "1", "4", "none", "OpGet", "getint", "putint", "casint", "equal", "swap", "gets", "puts", "allocate", "\xff", "g\xfft", "gét", "ｇｅｔ",
		"get\x00", "\x00get", "ge", "ca", strings.Repeat("get", 1000), strings.Repeat("x", 1<<20),
	}
	for _, r := range rows() {
		names = append(names, strings.ToUpper(r.name), strings.ToUpper(r.name[:1])+r.name[1:], r.name+"x", "x"+r.name, r.name+r.name, r.name+"\xff")
		for n := range len(r.name) {
			names = append(names, r.name[:n], r.name[n+1:])
		}
	}
	for _, name := range names {
		if slices.ContainsFunc(rows(), func(r row) bool { return r.name == name }) {
			continue
		}
		for n := range 6 {
			refusesRead(t, name+strings.Repeat(" 0", n))
			refusesRead(t, name+strings.Repeat(" 1", n))
		}
	}
}

// P8.2: texts that are long, however they go on.
func TestReadRefusesLongTexts(t *testing.T) {
	for _, part := range []string{" ", " 0", " 1", "0", "x", "\xff", "get 0 0 0 ", "get 0 0 0\n"} {
		long := strings.Repeat(part, 1<<20)
		refusesRead(t, long)
		for _, r := range rows() {
			refusesRead(t, r.text(r.same(1)...)+" "+long)
			refusesRead(t, r.name+" "+long)
			refusesRead(t, long+" "+r.text(r.same(1)...))
		}
	}
}

// numberForm is how the document writes numbers.
const numberForm = `(?:0|-?[1-9][0-9]*)`

// forms are what the document calls a text of an operation, one of each kind.
func forms() []*regexp.Regexp {
	var l []*regexp.Regexp
	for _, r := range rows() {
		l = append(l, regexp.MustCompile(`\A`+r.name+strings.Repeat(` (`+numberForm+`)`, len(r.names))+`\z`))
	}
	return l
}

// readBy is what a text says by the forms, in numbers of any length.
func readBy(forms []*regexp.Regexp, s string) (api.Op, api.Errno) {
	for i, form := range forms {
		found := form.FindStringSubmatch(s)
		if found == nil {
			continue
		}
		var numbers []int64
		for _, word := range found[1:] {
			n, _ := new(big.Int).SetString(word, 10)
			if !n.IsInt64() {
				return api.Op{}, 186
			}
			numbers = append(numbers, n.Int64())
		}
		return rows()[i].make(numbers...), 0
	}
	return api.Op{}, 186
}

// P8.2, P8.4: texts with one byte more, one less or one other; what is read is written as it was.
func TestReadOfTextsNearBy(t *testing.T) {
	forms := forms()
	fair, wrong := 0, 0
	holds := func(s string) {
		want, wantErrno := readBy(forms, s)
		x, errno := op.Read(s)
		if x != want || errno != wantErrno {
			t.Fatalf("Read(%q) = %+v, %d; not %+v, %d", s, x, errno, want, wantErrno)
		}
		if errno != 0 {
			wrong++
			return
		}
		fair++
		if text, errno := op.Text(x); text != s || errno != 0 {
			t.Fatalf("Text of Read of %q is %q, %d", s, text, errno)
		}
	}
	for _, r := range rows() {
		for _, numbers := range [][]int64{{0, 0, 0, 0}, {1, 20, -3, -40}, {5, 9, math.MaxInt64, math.MinInt64}, {math.MinInt64, math.MaxInt64, 10, 100}} {
			s := r.text(numbers[:len(r.names)]...)
			holds(s)
			for at := range len(s) + 1 {
				for _, b := range []byte(" 0123456789-+itcasgemovdrpulxA\t\n\x00\x80\xff") {
					holds(s[:at] + string([]byte{b}) + s[at:])
					if at < len(s) {
						holds(s[:at] + string([]byte{b}) + s[at+1:])
					}
				}
				if at < len(s) {
					holds(s[:at] + s[at+1:])
					holds(s[:at])
					holds(s[at:])
				}
			}
		}
	}
	if fair < 1000 || wrong < 1000 {
		t.Errorf("only %d fair and %d wrong texts were met", fair, wrong)
	}
}

// P8.4: Read of Text is the operation, Text of Read the text.
func TestReadOfTextAndTextOfRead(t *testing.T) {
	texts(func(x api.Op, text string) {
		s, errno := op.Text(x)
		if y, errno2 := op.Read(s); y != x || errno != 0 || errno2 != 0 {
			t.Errorf("Read of Text of %+v is %+v, %d, %d", x, y, errno, errno2)
		}
		y, errno := op.Read(text)
		if s, errno2 := op.Text(y); s != text || errno != 0 || errno2 != 0 {
			t.Errorf("Text of Read of %q is %q, %d, %d", text, s, errno, errno2)
		}
	})
}

func told(t *testing.T, x api.Op, o api.Out, want string, wantErrno api.Errno) {
	t.Helper()
	if s, errno := op.Told(x, o); s != want || errno != wantErrno {
		t.Errorf("Told(%+v, %+v) = %q, %d; not %q, %d", x, o, s, errno, want, wantErrno)
	}
}

// P8.3: each kind's answers that are no errors; what an answer has beside its meaning is not told.
func TestToldAnswers(t *testing.T) {
	words := map[string][2]string{ // where Is is false, where it is true
		"alloc": {"ok", "ok"}, "get": {"nothing", "object"}, "put": {"ok", "ok"}, "cas": {"no", "yes"}, "puti": {"ok", "ok"}, "casi": {"no", "yes"},
		"eq": {"no", "yes"}, "move": {"ok", "ok"}, "drop": {"ok", "ok"}, "collect": {"ok", "ok"},
	}
	for _, r := range rows() {
		for _, n := range wildNumbers() {
			x := r.make(r.same(n)...)
			for _, value := range wildNumbers() {
				no, yes := words[r.name][0], words[r.name][1]
				if r.name == "geti" {
					no, yes = fmt.Sprint(value), fmt.Sprint(value)
				}
				told(t, x, api.Out{Value: value}, no, 0)
				told(t, x, api.Out{Is: true, Value: value}, yes, 0)
			}
		}
	}
}

// P8.3: errors of each kind, whatever numbers they have, and whatever stands beside them.
func TestToldErrors(t *testing.T) {
	for _, r := range rows() {
		x := r.make(r.same(1)...)
		for _, n := range append(wildNumbers(), 130, 131, 132, 180, 181, 182, 183, 184, 185, 186, 300) {
			if n == 0 {
				continue
			}
			want := fmt.Sprint("error ", n)
			told(t, x, api.Out{Err: api.Errno(n)}, want, 0)
			told(t, x, api.Out{Err: api.Errno(n), Is: true, Value: 7}, want, 0)
		}
	}
	told(t, api.Op{Kind: api.OpAlloc}, api.Out{Err: api.ErrMemory}, "error 184", 0)
}

// P8.3: a kind that is none, and what a kind does not name, ahead of the answer's own error.
func TestToldRefuses(t *testing.T) {
	outs := []api.Out{{}, {Is: true}, {Value: 5}, {Err: 183}, {Err: -1, Is: true, Value: -5}}
	for _, o := range outs {
		for _, k := range wrongKinds() {
			told(t, api.Op{Kind: k}, o, "", 180)
			told(t, api.Op{Kind: k, A: 1, X: 3}, o, "", 180)
		}
		unnamed(func(_ row, x api.Op) { told(t, x, o, "", 180) })
	}
}

// Rules: a table that is handed in is not changed, spare room behind it included; what is answered hangs on nothing that was asked ahead.
func TestWhatIsHandedInIsLeft(t *testing.T) {
	table := []api.Shape{"p", "ps", "left", "left"}
	for range 3 {
		check(t, table[:2], api.Op{Kind: 1, Shape: 1}, 0)
		check(t, table[:2], api.Op{Kind: 1, Shape: 2}, 130)
		check(t, table[:3], api.Op{Kind: 1}, 2)
		refusesRead(t, "get 0 0")
		if x, errno := op.Read("get 0 0 1"); x != (api.Op{Kind: 2, B: 1}) || errno != 0 {
			t.Errorf("Read(get 0 0 1) = %+v, %d", x, errno)
		}
	}
	if !slices.Equal(table, []api.Shape{"p", "ps", "left", "left"}) {
		t.Errorf("the table became %q", table)
	}
}

// P8.1 to P8.3: the document's examples.
func TestExamples(t *testing.T) {
	if x, errno := op.Read("cas 0 1 2 3"); x != (api.Op{Kind: api.OpCas, A: 0, Field: 1, B: 2, C: 3}) || errno != api.OK {
		t.Error(x, errno)
	}
	if x, errno := op.Read("puti 0 1 -5"); x != (api.Op{Kind: api.OpPutInt, Field: 1, X: -5}) || errno != api.OK {
		t.Error(x, errno)
	}
	refusesRead(t, "puti 0 1 05")
	refusesRead(t, "get 1 2")
	check(t, []api.Shape{"p"}, api.Op{Kind: api.OpAlloc, A: 6}, api.ErrSlot)
	check(t, []api.Shape{"p"}, api.Op{Kind: api.OpAlloc, A: 5, Shape: 1}, api.ErrShape)
}
