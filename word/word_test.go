package word_test

import (
	"math"
	"math/big"
	"regexp"
	"strconv"
	"strings"
	"testing"

	"lapidary/api"
	"lapidary/word"
)

const leastScalar = -1 << 59

func null(sealed bool) api.Word { return api.Word{Kind: api.WordNull, Sealed: sealed} }

func pointer(address int64, sealed bool) api.Word {
	return api.Word{Kind: api.WordPointer, Sealed: sealed, Value: address}
}

func scalar(value int64, sealed bool) api.Word {
	return api.Word{Kind: api.WordScalar, Sealed: sealed, Value: value}
}

// row is a word that is not bad, in all its forms.
type row struct {
	w    uint64
	x    api.Word
	text string
}

func rows() []row {
	return []row{
		{0, null(false), "null"},
		{1, null(true), "!null"},
		{2, api.Word{Kind: api.WordEmpty}, "empty"},
		{8, pointer(1, false), "@1"},
		{9, pointer(1, true), "!@1"},
		{16, pointer(2, false), "@2"},
		{17, pointer(2, true), "!@2"},
		{80, pointer(10, false), "@10"},
		{134217720, pointer(16777215, false), "@16777215"},
		{134217721, pointer(16777215, true), "!@16777215"},
		{4, scalar(leastScalar, false), "-576460752303423488"},
		{5, scalar(leastScalar, true), "!-576460752303423488"},
		{12, scalar(leastScalar+1, false), "-576460752303423487"},
		{4611686018427387900, scalar(-1, false), "-1"},
		{4611686018427387901, scalar(-1, true), "!-1"},
		{4611686018427387908, scalar(0, false), "0"},
		{4611686018427387909, scalar(0, true), "!0"},
		{4611686018427387916, scalar(1, false), "1"},
		{4611686018427387988, scalar(10, false), "10"},
		{9223372036854775804, scalar(576460752303423487, false), "576460752303423487"},
		{9223372036854775805, scalar(576460752303423487, true), "!576460752303423487"},
	}
}

func badWords() []uint64 {
	return []uint64{
		3, 6, 7, 10, 11, 14, 15, 18, 19, 22, 23,
		134217722, 134217728, 134217729, 1 << 40, 1<<40 + 1, 1 << 62, 1<<62 + 1, 1<<62 + 6, 1<<62 + 7,
		1<<63 - 2, 1<<63 - 1, 1 << 63, 1<<63 + 1, 1<<63 + 2, 1<<63 + 4, 1<<63 + 5, 1<<63 + 8, 1<<63 + 9,
		math.MaxUint64 - 7, math.MaxUint64 - 3, math.MaxUint64 - 2, math.MaxUint64 - 1, math.MaxUint64,
	}
}

// sought tells a word straight from the document's sums.
func sought(w uint64) api.Word {
	plain, sealed := w-w%2, w%2 == 1
	switch {
	case w == 2:
		return api.Word{Kind: api.WordEmpty}
	case plain == 0:
		return null(sealed)
	case plain%8 == 0 && plain/8 <= api.MaxAddress:
		return pointer(int64(plain/8), sealed)
	case plain%8 == 4 && plain/8 < 1<<60:
		return scalar(int64(plain/8)-1<<59, sealed)
	}
	return api.Word{}
}

// manyWords are those near every power of two, all small ones, and some from all over.
func manyWords() []uint64 {
	var ws []uint64
	for w := uint64(0); w < 5000; w++ {
		ws = append(ws, w, math.MaxUint64-w)
	}
	for n := range 64 {
		for d := uint64(0); d <= 40; d++ {
			ws = append(ws, 1<<n+d, 1<<n-d)
		}
	}
	w := uint64(1)
	for range 20000 {
		w = w*6364136223846793005 + 1442695040888963407
		ws = append(ws, w, w>>(w%64))
	}
	return append(ws, badWords()...)
}

func wantWord(t *testing.T, what string, got uint64, errno api.Errno, want uint64, wantErrno api.Errno) {
	t.Helper()
	if got != want || errno != wantErrno {
		t.Errorf("%s: %d, error %d; want %d, error %d", what, got, errno, want, wantErrno)
	}
}

// P1.1

func TestPointer(t *testing.T) {
	for _, c := range []struct {
		address int64
		w       uint64
		errno   api.Errno
	}{
		{1, 8, api.OK}, {2, 16, api.OK}, {1000, 8000, api.OK},
		{api.MaxAddress - 1, 134217712, api.OK}, {api.MaxAddress, 134217720, api.OK},
		{0, 0, api.ErrRange}, {-1, 0, api.ErrRange}, {api.MaxAddress + 1, 0, api.ErrRange},
		{-api.MaxAddress, 0, api.ErrRange}, {1<<61 + 1, 0, api.ErrRange},
		{math.MaxInt64, 0, api.ErrRange}, {math.MinInt64, 0, api.ErrRange}, {math.MinInt64 + 1, 0, api.ErrRange},
	} {
		w, errno := word.Pointer(c.address)
		wantWord(t, "Pointer "+strconv.FormatInt(c.address, 10), w, errno, c.w, c.errno)
	}
}

func TestScalar(t *testing.T) {
	for _, c := range []struct {
		value int64
		w     uint64
		errno api.Errno
	}{
		{0, 4611686018427387908, api.OK}, {-1, 4611686018427387900, api.OK}, {1, 4611686018427387916, api.OK},
		{leastScalar, 4, api.OK}, {leastScalar + 1, 12, api.OK},
		{api.MaxScalar, 9223372036854775804, api.OK}, {api.MaxScalar - 1, 9223372036854775796, api.OK},
		{leastScalar - 1, 0, api.ErrRange}, {api.MaxScalar + 1, 0, api.ErrRange},
		{1<<61 + 5, 0, api.ErrRange}, {-1<<61 - 5, 0, api.ErrRange},
		{math.MaxInt64, 0, api.ErrRange}, {math.MinInt64, 0, api.ErrRange},
	} {
		w, errno := word.Scalar(c.value)
		wantWord(t, "Scalar "+strconv.FormatInt(c.value, 10), w, errno, c.w, c.errno)
	}
}

func TestEmpty(t *testing.T) {
	if w := word.Empty(); w != 2 {
		t.Error(w)
	}
}

func TestOf(t *testing.T) {
	for _, r := range rows() {
		if x := word.Of(r.w); x != r.x {
			t.Errorf("Of %d: %v, want %v", r.w, x, r.x)
		}
	}
	for _, w := range badWords() {
		if x := word.Of(w); x != (api.Word{}) {
			t.Errorf("Of %d: %v, want a bad one", w, x)
		}
	}
	for _, w := range manyWords() {
		if x := word.Of(w); x != sought(w) {
			t.Errorf("Of %d: %v, want %v", w, x, sought(w))
		}
	}
}

func TestMake(t *testing.T) {
	for _, r := range rows() {
		w, errno := word.Make(r.x)
		wantWord(t, "Make of "+r.text, w, errno, r.w, api.OK)
	}
}

func TestMakeRefuses(t *testing.T) {
	for _, c := range []struct {
		x     api.Word
		errno api.Errno
	}{
		{api.Word{}, api.ErrArg},
		{api.Word{Sealed: true}, api.ErrArg},
		{api.Word{Value: 5}, api.ErrArg},
		{api.Word{Kind: -1}, api.ErrArg},
		{api.Word{Kind: api.WordEmpty + 1}, api.ErrArg},
		{api.Word{Kind: math.MaxInt, Value: math.MaxInt64}, api.ErrArg},
		{api.Word{Kind: math.MinInt, Value: math.MinInt64}, api.ErrArg},
		{api.Word{Kind: api.WordNull, Value: 1}, api.ErrArg},
		{api.Word{Kind: api.WordNull, Value: -1, Sealed: true}, api.ErrArg},
		{api.Word{Kind: api.WordNull, Value: math.MinInt64}, api.ErrArg},
		{api.Word{Kind: api.WordEmpty, Value: 1}, api.ErrArg},
		{api.Word{Kind: api.WordEmpty, Value: math.MaxInt64}, api.ErrArg},
		{api.Word{Kind: api.WordEmpty, Sealed: true}, api.ErrArg},
		{api.Word{Kind: api.WordEmpty, Sealed: true, Value: -7}, api.ErrArg},
		{pointer(0, false), api.ErrRange}, {pointer(0, true), api.ErrRange},
		{pointer(-1, false), api.ErrRange}, {pointer(math.MinInt64, true), api.ErrRange},
		{pointer(api.MaxAddress+1, false), api.ErrRange}, {pointer(api.MaxAddress+1, true), api.ErrRange},
		{pointer(math.MaxInt64, false), api.ErrRange},
		{scalar(leastScalar-1, false), api.ErrRange}, {scalar(leastScalar-1, true), api.ErrRange},
		{scalar(api.MaxScalar+1, false), api.ErrRange}, {scalar(api.MaxScalar+1, true), api.ErrRange},
		{scalar(math.MaxInt64, false), api.ErrRange}, {scalar(math.MinInt64, true), api.ErrRange},
	} {
		if w, errno := word.Make(c.x); w != 0 || errno != c.errno {
			t.Errorf("Make %v: %d, error %d; want error %d", c.x, w, errno, c.errno)
		}
	}
}

// P1.2

func TestSealAndStrip(t *testing.T) {
	for _, r := range rows() {
		if r.x.Kind == api.WordEmpty {
			continue
		}
		w, errno := word.Seal(r.w)
		wantWord(t, "Seal of "+r.text, w, errno, r.w|1, api.OK)
		w, errno = word.Strip(r.w)
		wantWord(t, "Strip of "+r.text, w, errno, r.w&^1, api.OK)
	}
	for _, bad := range append(badWords(), word.Empty()) {
		w, errno := word.Seal(bad)
		wantWord(t, "Seal of "+strconv.FormatUint(bad, 10), w, errno, 0, api.ErrArg)
		w, errno = word.Strip(bad)
		wantWord(t, "Strip of "+strconv.FormatUint(bad, 10), w, errno, 0, api.ErrArg)
	}
}

func TestAddress(t *testing.T) {
	for _, r := range rows() {
		want, is := 0, r.x.Kind == api.WordPointer
		if is {
			want = int(r.x.Value)
		}
		if address, ok := word.Address(r.w); address != want || ok != is {
			t.Errorf("Address of %s: %d %t", r.text, address, ok)
		}
	}
	for _, w := range badWords() {
		if address, ok := word.Address(w); address != 0 || ok {
			t.Errorf("Address of %d: %d %t", w, address, ok)
		}
	}
}

// P1.3

func TestTextAndRead(t *testing.T) {
	for _, r := range rows() {
		if s := word.Text(r.w); s != r.text {
			t.Errorf("Text of %d: %q, want %q", r.w, s, r.text)
		}
		w, errno := word.Read(r.text)
		wantWord(t, "Read "+r.text, w, errno, r.w, api.OK)
	}
	for _, w := range badWords() {
		if s := word.Text(w); s != "bad" {
			t.Errorf("Text of %d: %q, want bad", w, s)
		}
	}
}

func TestReadRefuses(t *testing.T) {
	for _, c := range []struct {
		s     string
		errno api.Errno
	}{
		{"@0", api.ErrRange}, {"!@0", api.ErrRange},
		{"@16777216", api.ErrRange}, {"!@16777216", api.ErrRange},
		{"576460752303423488", api.ErrRange}, {"!576460752303423488", api.ErrRange},
		{"-576460752303423489", api.ErrRange}, {"!-576460752303423489", api.ErrRange},
		{"9223372036854775808", api.ErrRange}, {"-9223372036854775809", api.ErrRange},
		{"18446744073709551616", api.ErrRange}, {"18446744073709551617", api.ErrRange},
		{"-18446744073709551617", api.ErrRange}, {"@18446744073709551617", api.ErrRange},
		{"1" + strings.Repeat("0", 5000), api.ErrRange}, {"-" + strings.Repeat("9", 5000), api.ErrRange},
		{"@" + strings.Repeat("7", 5000), api.ErrRange},
		{"", api.ErrArg}, {"!", api.ErrArg}, {"@", api.ErrArg}, {"!@", api.ErrArg}, {"-", api.ErrArg}, {"!-", api.ErrArg},
		{"bad", api.ErrArg}, {"!bad", api.ErrArg}, {"!empty", api.ErrArg}, {"!!null", api.ErrArg}, {"!!1", api.ErrArg},
		{"01", api.ErrArg}, {"00", api.ErrArg}, {"@01", api.ErrArg}, {"@00", api.ErrArg}, {"-01", api.ErrArg}, {"-0", api.ErrArg},
		{"!01", api.ErrArg}, {"!-0", api.ErrArg}, {"!@00", api.ErrArg},
		{"@-1", api.ErrArg}, {"@-0", api.ErrArg}, {"-@1", api.ErrArg}, {"@!1", api.ErrArg}, {"@@1", api.ErrArg}, {"--1", api.ErrArg},
		{"+1", api.ErrArg}, {"@+1", api.ErrArg}, {"1_0", api.ErrArg}, {"0x1", api.ErrArg}, {"1e3", api.ErrArg}, {"1.0", api.ErrArg},
		{" 1", api.ErrArg}, {"1 ", api.ErrArg}, {"1\n", api.ErrArg}, {"@1\n", api.ErrArg}, {"null\n", api.ErrArg}, {"\x00", api.ErrArg}, {"1\x00", api.ErrArg},
		{"Null", api.ErrArg}, {"NULL", api.ErrArg}, {"nul", api.ErrArg}, {"nulll", api.ErrArg}, {"@null", api.ErrArg}, {"empt", api.ErrArg}, {"emptyy", api.ErrArg},
		{"0" + strings.Repeat("0", 5000), api.ErrArg}, {strings.Repeat("9", 5000) + "x", api.ErrArg}, {"@99999999999999999999-", api.ErrArg},
		{"0" + strings.Repeat("9", 30), api.ErrArg}, {"-@99999999999999999999", api.ErrArg},
		{"\xff", api.ErrArg}, {"1\xff", api.ErrArg}, {"\xff1", api.ErrArg}, {"@\xc3", api.ErrArg}, {"!\x80", api.ErrArg}, {"null\xff", api.ErrArg},
		{"-\xf0\x9f", api.ErrArg}, {"\u0661", api.ErrArg}, {"@\uff11", api.ErrArg}, {"\u22121", api.ErrArg}, {"1\u0662", api.ErrArg},
		{"\ufffd", api.ErrArg}, {"9\ufffd9", api.ErrArg},
	} {
		if w, errno := word.Read(c.s); w != 0 || errno != c.errno {
			t.Errorf("Read %.40q: %d, error %d; want error %d", c.s, w, errno, c.errno)
		}
	}
}

var wordForm = regexp.MustCompile(`^(!?)(@?)(0|-?[1-9][0-9]*)$`)

// read is what Read must answer, worked out by numbers without bounds.
func read(s string) (uint64, api.Errno) {
	switch s {
	case "null", "!null", "empty":
		return map[string]uint64{"null": 0, "!null": 1, "empty": 2}[s], api.OK
	}
	m := wordForm.FindStringSubmatch(s)
	if m == nil || m[2] != "" && strings.HasPrefix(m[3], "-") {
		return 0, api.ErrArg
	}
	n, _ := new(big.Int).SetString(m[3], 10)
	low, high, add := big.NewInt(leastScalar), big.NewInt(api.MaxScalar), big.NewInt(1<<62+4)
	if m[2] != "" {
		low, high, add = big.NewInt(1), big.NewInt(api.MaxAddress), big.NewInt(0)
	}
	if n.Cmp(low) < 0 || n.Cmp(high) > 0 {
		return 0, api.ErrRange
	}
	n.Add(n.Mul(n, big.NewInt(8)), add)
	return n.Uint64() + uint64(len(m[1])), api.OK
}

func TestReadOfAllShortTexts(t *testing.T) {
	texts := []string{""}
	for from := 0; len(texts) < 150000; {
		end := len(texts)
		for _, s := range texts[from:end] {
			for _, c := range []string{"!", "@", "-", "0", "1", "9", "99999999", "null", "empty", "bad", "\xff"} {
				texts = append(texts, s+c)
			}
		}
		from = end
	}
	for _, s := range texts {
		got, errno := word.Read(s)
		want, wantErrno := read(s)
		if got != want || errno != wantErrno {
			t.Fatalf("Read %q: %d, error %d; want %d, error %d", s, got, errno, want, wantErrno)
		}
	}
}

func TestReadOfEveryByte(t *testing.T) {
	for n := range 256 {
		c := string([]byte{byte(n)})
		for _, s := range []string{c, c + "1", "1" + c, "@" + c, "@1" + c, "-" + c, "-1" + c, "1" + c + "1", "!" + c, "null" + c, c + "empty"} {
			got, errno := word.Read(s)
			want, wantErrno := read(s)
			if got != want || errno != wantErrno {
				t.Errorf("Read %q: %d, error %d; want %d, error %d", s, got, errno, want, wantErrno)
			}
		}
	}
}

func TestReadNearTheBounds(t *testing.T) {
	for _, edge := range []int64{leastScalar, 0, api.MaxAddress, api.MaxScalar, math.MaxInt64 - 40, math.MinInt64 + 40} {
		for d := int64(-40); d <= 40; d++ {
			for _, ahead := range []string{"", "!", "@", "!@"} {
				s := ahead + strconv.FormatInt(edge+d, 10)
				got, errno := word.Read(s)
				want, wantErrno := read(s)
				wantWord(t, "Read "+s, got, errno, want, wantErrno)
			}
		}
	}
}

// P1.4

func TestWordsComeBack(t *testing.T) {
	for _, w := range manyWords() {
		x := word.Of(w)
		if x.Kind == api.WordBad {
			continue
		}
		made, errno := word.Make(x)
		wantWord(t, "Make of Of", made, errno, w, api.OK)
		read, errno := word.Read(word.Text(w))
		wantWord(t, "Read of Text", read, errno, w, api.OK)
	}
}

func TestOnlyTheSameWordsAreToldAlike(t *testing.T) {
	told, texts := map[api.Word]uint64{}, map[string]uint64{}
	for _, w := range manyWords() {
		x := word.Of(w)
		if x.Kind == api.WordBad {
			continue
		}
		if other, ok := told[x]; ok && other != w {
			t.Errorf("%d and %d are told alike: %v", other, w, x)
		}
		if other, ok := texts[word.Text(w)]; ok && other != w {
			t.Errorf("%d and %d have one text: %s", other, w, word.Text(w))
		}
		told[x], texts[word.Text(w)] = w, w
	}
}

func TestStripOfSeal(t *testing.T) {
	for _, w := range manyWords() {
		x := word.Of(w)
		if x.Sealed || x.Kind == api.WordBad || x.Kind == api.WordEmpty {
			continue
		}
		sealed, errno := word.Seal(w)
		if errno != api.OK || sealed == w {
			t.Errorf("Seal of %d: %d, error %d", w, sealed, errno)
		}
		y := word.Of(sealed)
		if !y.Sealed || y.Kind != x.Kind || y.Value != x.Value {
			t.Errorf("Seal of %v is %v", x, y)
		}
		plain, errno := word.Strip(sealed)
		wantWord(t, "Strip of Seal", plain, errno, w, api.OK)
		again, errno := word.Seal(sealed)
		wantWord(t, "Seal of Seal", again, errno, sealed, api.OK)
		stripped, errno := word.Strip(w)
		wantWord(t, "Strip of a plain one", stripped, errno, w, api.OK)
	}
}
