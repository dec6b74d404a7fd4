package pack_test

import (
	"math"
	"math/big"
	"testing"

	"lapidary/api"
	"lapidary/pack"
)

func names() []string {
	return []string{"plain", "guard", "guarded", "black", "aware", "install", "flip"}
}

// wild are numbers at and past the bounds that the document names, and far beyond them.
func wild() []int {
	return []int{
		0, 1, 2, 3, 5, 57, 58, 64, 4095, 4096, 4097, 8191, 8192, 8193,
		-1, -2, -4096, -8192, math.MaxInt32, math.MinInt32, math.MaxInt, math.MaxInt - 1, math.MaxInt - 4096,
		math.MinInt, math.MinInt + 1, math.MinInt + 4096,
	}
}

// fair are numbers of words that a frontier can have.
func fair() []int { return []int{0, 1, 2, 3, 5, 57, 58, 64, 2048, 4094, 4095, 4096} }

// mayFront asks as the document does, in numbers that can't wrap round.
func mayFront(x api.Front) bool {
	for _, n := range []int{x.Low, x.High, x.Other} {
		if n < 0 || n > 4096 {
			return false
		}
	}
	return (x.Space == 0 || x.Space == 1) && x.Low+x.Other <= x.High
}

func fronts(numbers []int, spaces ...int) []api.Front {
	var xs []api.Front
	for _, space := range spaces {
		for _, low := range numbers {
			for _, high := range numbers {
				for _, other := range numbers {
					xs = append(xs, api.Front{Space: space, Low: low, High: high, Other: other})
				}
			}
		}
	}
	return xs
}

func fairFronts() []api.Front {
	var xs []api.Front
	for _, x := range fronts(fair(), 0, 1) {
		if mayFront(x) {
			xs = append(xs, x)
		}
	}
	return xs
}

func wrongFronts() []api.Front {
	var xs []api.Front
	for _, x := range fronts(wild(), 0, 1, 2, -1, math.MaxInt, math.MinInt) {
		if !mayFront(x) {
			xs = append(xs, x)
		}
	}
	return xs
}

func fewWrongFronts() []api.Front {
	return []api.Front{
		{Space: 2, High: 64}, {Space: -1, High: 64}, {Space: math.MinInt, High: 64},
		{Low: -1, High: 64}, {Low: 4097, High: 4096}, {High: 4097}, {High: -1}, {Low: -1, High: -1},
		{Other: -1, High: 64}, {Other: 4097, High: 4096}, {Low: 60, High: 64, Other: 5}, {Low: 1}, {Other: 1},
		{Low: -4, High: 64, Other: 68}, {Low: 68, High: 64, Other: -4},
		{Low: math.MaxInt, High: 64, Other: math.MaxInt}, {Low: math.MinInt, High: 64, Other: math.MinInt},
	}
}

// manyWords are the small ones, those near every power of two, and some from all over.
func manyWords() []uint64 {
	var ws []uint64
	for w := uint64(0); w < 20000; w++ {
		ws = append(ws, w, math.MaxUint64-w)
	}
	for n := range 64 {
		for d := uint64(0); d <= 40; d++ {
			ws = append(ws, 1<<n+d, 1<<n-d)
		}
	}
	w := uint64(1)
	for range 200000 {
		w = w*6364136223846793005 + 1442695040888963407
		ws = append(ws, w, w>>(w%64), w>>24, w>>30)
	}
	return ws
}

func bigOf(n int) *big.Int { return big.NewInt(int64(n)) }

// P2.1

func TestRequest(t *testing.T) {
	for _, epoch := range []int64{0, 1, 2, 3, 7, 8, 1000, 1 << 32, api.MaxEpoch - 1, api.MaxEpoch} {
		for phase := range 7 {
			x := api.Request{Epoch: epoch, Phase: api.Phase(phase)}
			want := uint64(epoch)*8 + uint64(phase)
			if w, errno := pack.Request(x); w != want || errno != api.OK {
				t.Errorf("Request %v: %d, error %d; want %d", x, w, errno, want)
			}
			if y, errno := pack.OfRequest(want); y != x || errno != api.OK {
				t.Errorf("OfRequest %d: %v, error %d; want %v", want, y, errno, x)
			}
		}
	}
}

func TestRequestRows(t *testing.T) {
	for _, c := range []struct {
		x api.Request
		w uint64
	}{
		{api.Request{}, 0},
		{api.Request{Epoch: 3, Phase: api.PhaseBlack}, 27},
		{api.Request{Epoch: 0, Phase: api.PhaseFlip}, 6},
		{api.Request{Epoch: 1, Phase: api.PhasePlain}, 8},
		{api.Request{Epoch: 1099511627775, Phase: api.PhaseFlip}, 8796093022206},
	} {
		if w, errno := pack.Request(c.x); w != c.w || errno != api.OK {
			t.Errorf("Request %v: %d, error %d; want %d", c.x, w, errno, c.w)
		}
	}
}

func TestRequestWrong(t *testing.T) {
	for _, x := range []api.Request{
		{Epoch: -1}, {Epoch: 1 << 40}, {Epoch: 1<<40 + 1}, {Epoch: 1 << 61}, {Epoch: math.MaxInt64}, {Epoch: math.MinInt64},
		{Phase: -1}, {Phase: 7}, {Phase: 8}, {Phase: math.MaxInt}, {Phase: math.MinInt},
		{Epoch: 3, Phase: -1}, {Epoch: 3, Phase: 7}, {Epoch: -1, Phase: 8}, {Epoch: 1 << 40, Phase: -8},
	} {
		if w, errno := pack.Request(x); w != 0 || errno != api.ErrArg {
			t.Errorf("Request %v: %d, error %d; want 0, ErrArg", x, w, errno)
		}
	}
}

func TestOfRequestWrong(t *testing.T) {
	for _, w := range []uint64{
		7, 15, 31, 8*api.MaxEpoch + 7, 1 << 43, 1<<43 + 1, 1<<43 + 7, 1 << 63, 1<<63 + 3, math.MaxUint64, math.MaxUint64 - 1,
	} {
		if x, errno := pack.OfRequest(w); x != (api.Request{}) || errno != api.ErrArg {
			t.Errorf("OfRequest %d: %v, error %d; want none, ErrArg", w, x, errno)
		}
	}
}

func TestOfRequestMany(t *testing.T) {
	for _, w := range manyWords() {
		x, errno := pack.OfRequest(w)
		if w%8 == 7 || w/8 > 1<<40-1 {
			if x != (api.Request{}) || errno != api.ErrArg {
				t.Fatalf("OfRequest %d: %v, error %d; want none, ErrArg", w, x, errno)
			}
			continue
		}
		if x != (api.Request{Epoch: int64(w / 8), Phase: api.Phase(w % 8)}) || errno != api.OK {
			t.Fatalf("OfRequest %d: %v, error %d", w, x, errno)
		}
	}
}

func TestName(t *testing.T) {
	for n, want := range names() {
		if s, is := pack.Name(api.Phase(n)); s != want || !is {
			t.Errorf("Name %d: %q, %v; want %q", n, s, is, want)
		}
	}
	if s, _ := pack.Name(api.PhaseGuarded); s != "guarded" {
		t.Errorf("Name of PhaseGuarded: %q", s)
	}
	for _, p := range []api.Phase{-1, 7, 8, -7, 255, 256, math.MaxInt, math.MinInt} {
		if s, is := pack.Name(p); s != "" || is {
			t.Errorf("Name %d: %q, %v; want none", p, s, is)
		}
	}
}

// P2.2

func TestFront(t *testing.T) {
	for _, x := range fairFronts() {
		want := uint64(x.Space) + 2*(uint64(x.Low)+8192*(uint64(x.High)+8192*uint64(x.Other)))
		if w, errno := pack.Front(x); w != want || errno != api.OK {
			t.Fatalf("Front %v: %d, error %d; want %d", x, w, errno, want)
		}
		if y, errno := pack.OfFront(want); y != x || errno != api.OK {
			t.Fatalf("OfFront %d: %v, error %d; want %v", want, y, errno, x)
		}
	}
}

func TestFrontRows(t *testing.T) {
	for _, c := range []struct {
		x api.Front
		w uint64
	}{
		{api.Front{}, 0},
		{api.Front{Space: 1}, 1},
		{api.Front{Low: 5, High: 64, Other: 2}, 269484042},
		{api.Front{High: 4096}, 67108864},
		{api.Front{Space: 1, Low: 4096, High: 4096}, 67117057},
		{api.Front{Space: 1, High: 4096, Other: 4096}, 549822922753},
		{api.Front{Low: 62, High: 64, Other: 2}, 269484156},
	} {
		if w, errno := pack.Front(c.x); w != c.w || errno != api.OK {
			t.Errorf("Front %v: %d, error %d; want %d", c.x, w, errno, c.w)
		}
	}
}

func TestFrontWrong(t *testing.T) {
	for _, x := range append(wrongFronts(), fewWrongFronts()...) {
		if w, errno := pack.Front(x); w != 0 || errno != api.ErrArg {
			t.Fatalf("Front %v: %d, error %d; want 0, ErrArg", x, w, errno)
		}
	}
}

func TestOfFrontWrong(t *testing.T) {
	frontWord := func(space, low, high, other uint64) uint64 { return space + 2*(low+8192*(high+8192*other)) }
	for _, w := range []uint64{
		frontWord(0, 1, 0, 0), frontWord(1, 0, 0, 1), frontWord(0, 63, 64, 2), frontWord(1, 62, 64, 3),
		frontWord(0, 0, 4097, 0), frontWord(0, 4097, 4097, 0), frontWord(0, 0, 4097, 4097), frontWord(0, 0, 8191, 0),
		frontWord(0, 0, 4096, 4097), frontWord(0, 5, 64, 8192), frontWord(0, 5, 64, 8192+2), frontWord(0, 5, 64, 1<<16+2),
		frontWord(0, 5, 64, 1<<32+2), frontWord(0, 5, 64, 1<<36+2), 1 << 40, 1 << 62, 1 << 63, 1<<63 + 269484042,
		math.MaxUint64, math.MaxUint64 - 1,
	} {
		if x, errno := pack.OfFront(w); x != (api.Front{}) || errno != api.ErrArg {
			t.Errorf("OfFront %d: %v, error %d; want none, ErrArg", w, x, errno)
		}
	}
}

func TestOfFrontMany(t *testing.T) {
	fit := 0
	for _, w := range manyWords() {
		rest := w / 2
		want := api.Front{Space: int(w % 2), Low: int(rest % 8192), High: int(rest / 8192 % 8192), Other: int(rest / 8192 / 8192)}
		wantErrno := api.OK
		if !mayFront(want) {
			want, wantErrno = api.Front{}, api.ErrArg
		} else {
			fit++
		}
		if x, errno := pack.OfFront(w); x != want || errno != wantErrno {
			t.Fatalf("OfFront %d: %v, error %d; want %v, error %d", w, x, errno, want, wantErrno)
		}
	}
	if fit < 1000 {
		t.Errorf("only %d of the words are frontiers'", fit)
	}
}

func TestUsed(t *testing.T) {
	for _, c := range []struct {
		x    api.Front
		size int
		want int
	}{
		{api.Front{Low: 5, High: 64, Other: 2}, 64, 7},
		{api.Front{Low: 5, High: 64, Other: 2}, 65, 8},
		{api.Front{Space: 1, Low: 5, High: 60, Other: 2}, 64, 11},
		{api.Front{Low: 5, High: 64, Other: 2}, 4096, 4039},
		{api.Front{}, 0, 0}, {api.Front{}, 4096, 4096}, {api.Front{High: 4096}, 4096, 0},
		{api.Front{Low: 2000, High: 4096, Other: 2096}, 4096, 4096},
	} {
		if n, errno := pack.Used(c.x, c.size); n != c.want || errno != api.OK {
			t.Errorf("Used %v, %d: %d, error %d; want %d", c.x, c.size, n, errno, c.want)
		}
	}
}

func TestUsedMany(t *testing.T) {
	for _, x := range fairFronts() {
		for _, size := range append(wild(), x.High-1, x.High, x.High+1) {
			want, wantErrno := x.Low+(size-x.High)+x.Other, api.OK
			if size < x.High || size > 4096 {
				want, wantErrno = 0, api.ErrArg
			}
			if n, errno := pack.Used(x, size); n != want || errno != wantErrno {
				t.Fatalf("Used %v, %d: %d, error %d; want %d, error %d", x, size, n, errno, want, wantErrno)
			}
		}
	}
	for _, x := range append(wrongFronts(), fewWrongFronts()...) {
		for _, size := range []int{64, 4096, x.High} {
			if n, errno := pack.Used(x, size); n != 0 || errno != api.ErrArg {
				t.Fatalf("Used %v, %d: %d, error %d; want 0, ErrArg", x, size, n, errno)
			}
		}
	}
}

// P2.3

// fits holds a claim against a frontier in numbers that can't wrap round.
func fits(x api.Front, n int) bool {
	sum := new(big.Int).Add(bigOf(x.Low), bigOf(x.Other))
	return mayFront(x) && n >= 1 && sum.Add(sum, bigOf(n)).Cmp(bigOf(x.High)) <= 0
}

func TestFits(t *testing.T) {
	x := api.Front{Low: 5, High: 64, Other: 2}
	for n, want := range map[int]bool{
		1: true, 2: true, 56: true, 57: true, 58: false, 64: false, 0: false, -1: false,
		math.MaxInt: false, math.MaxInt - 6: false, math.MinInt: false,
	} {
		if got := pack.Fits(x, n); got != want {
			t.Errorf("Fits %v, %d: %v", x, n, got)
		}
	}
	for _, x := range fairFronts() {
		room := x.High - x.Low - x.Other
		for _, n := range append(wild(), room-1, room, room+1) {
			if got := pack.Fits(x, n); got != fits(x, n) {
				t.Fatalf("Fits %v, %d: %v", x, n, got)
			}
		}
	}
	for _, x := range append(wrongFronts(), fewWrongFronts()...) {
		for _, n := range []int{1, 0, math.MinInt} {
			if pack.Fits(x, n) {
				t.Fatalf("Fits %v, %d: true, of a frontier that may not be", x, n)
			}
		}
	}
}

func TestClaim(t *testing.T) {
	x := api.Front{Low: 5, High: 64, Other: 2}
	y := api.Front{Space: 1, Low: 5, High: 64, Other: 2}
	for _, c := range []struct {
		x        api.Front
		space, n int
		want     api.Front
		at       int
		errno    api.Errno
	}{
		{x, 0, 3, api.Front{Low: 8, High: 64, Other: 2}, 5, api.OK},
		{x, 1, 3, api.Front{Low: 5, High: 64, Other: 5}, 2, api.OK},
		{y, 0, 3, api.Front{Space: 1, Low: 5, High: 64, Other: 5}, 2, api.OK},
		{y, 1, 3, api.Front{Space: 1, Low: 8, High: 64, Other: 2}, 5, api.OK},
		{x, 0, 1, api.Front{Low: 6, High: 64, Other: 2}, 5, api.OK},
		{x, 0, 57, api.Front{Low: 62, High: 64, Other: 2}, 5, api.OK},
		{x, 1, 57, api.Front{Low: 5, High: 64, Other: 59}, 2, api.OK},
		{x, 0, 58, api.Front{}, 0, api.ErrRange},
		{x, 1, 58, api.Front{}, 0, api.ErrRange},
		{x, 0, math.MaxInt, api.Front{}, 0, api.ErrRange},
		{x, 1, math.MaxInt, api.Front{}, 0, api.ErrRange},
		{x, 0, 0, api.Front{}, 0, api.ErrArg},
		{x, 1, -1, api.Front{}, 0, api.ErrArg},
		{x, 0, math.MinInt, api.Front{}, 0, api.ErrArg},
		{x, 2, 3, api.Front{}, 0, api.ErrArg},
		{x, -1, 3, api.Front{}, 0, api.ErrArg},
		{x, 2, 58, api.Front{}, 0, api.ErrArg},
		{x, math.MaxInt, 3, api.Front{}, 0, api.ErrArg},
		{x, math.MinInt, 3, api.Front{}, 0, api.ErrArg},
		{api.Front{}, 0, 1, api.Front{}, 0, api.ErrRange},
		{api.Front{High: 4096}, 1, 4096, api.Front{High: 4096, Other: 4096}, 0, api.OK},
		{api.Front{High: 4096}, 0, 4096, api.Front{Low: 4096, High: 4096}, 0, api.OK},
		{api.Front{High: 4096}, 0, 4097, api.Front{}, 0, api.ErrRange},
	} {
		if got, at, errno := pack.Claim(c.x, c.space, c.n); got != c.want || at != c.at || errno != c.errno {
			t.Errorf("Claim %v, %d, %d: %v at %d, error %d; want %v at %d, error %d",
				c.x, c.space, c.n, got, at, errno, c.want, c.at, c.errno)
		}
	}
}

// claimed does a claim by the document's words.
func claimed(x api.Front, space, n int) (api.Front, int, api.Errno) {
	switch {
	case !mayFront(x), space != 0 && space != 1, n < 1:
		return api.Front{}, 0, api.ErrArg
	case !fits(x, n):
		return api.Front{}, 0, api.ErrRange
	}
	at := x.Low
	if space == x.Space {
		x.Low += n
	} else {
		at = x.Other
		x.Other += n
	}
	return x, at, api.OK
}

func TestClaimMany(t *testing.T) {
	same := func(x api.Front, space, n int) {
		want, wantAt, wantErrno := claimed(x, space, n)
		if got, at, errno := pack.Claim(x, space, n); got != want || at != wantAt || errno != wantErrno {
			t.Fatalf("Claim %v, %d, %d: %v at %d, error %d; want %v at %d, error %d",
				x, space, n, got, at, errno, want, wantAt, wantErrno)
		}
	}
	for _, x := range fairFronts() {
		room := x.High - x.Low - x.Other
		for _, n := range append(wild(), room-1, room, room+1) {
			for _, space := range []int{0, 1, 2, -1} {
				same(x, space, n)
			}
		}
	}
	for _, x := range fewWrongFronts() {
		for _, n := range wild() {
			for _, space := range wild() {
				same(x, space, n)
			}
		}
	}
	for _, x := range wrongFronts() {
		same(x, 0, 1)
		same(x, 1, math.MaxInt)
	}
}

func TestTurn(t *testing.T) {
	x := api.Front{Low: 5, High: 64, Other: 2}
	for _, c := range []struct {
		x     api.Front
		high  int
		want  api.Front
		errno api.Errno
	}{
		{x, 60, api.Front{Space: 1, Low: 2, High: 60}, api.OK},
		{x, 2, api.Front{Space: 1, Low: 2, High: 2}, api.OK},
		{x, 4096, api.Front{Space: 1, Low: 2, High: 4096}, api.OK},
		{x, 1, api.Front{}, api.ErrRange},
		{x, 0, api.Front{}, api.ErrRange},
		{x, -1, api.Front{}, api.ErrRange},
		{x, 4097, api.Front{}, api.ErrRange},
		{x, math.MaxInt, api.Front{}, api.ErrRange},
		{x, math.MinInt, api.Front{}, api.ErrRange},
		{api.Front{Space: 1, Low: 9, High: 9}, 0, api.Front{}, api.OK},
		{api.Front{Space: 1, High: 4096, Other: 4096}, 4096, api.Front{Low: 4096, High: 4096}, api.OK},
		{api.Front{Space: 1, High: 4096, Other: 4096}, 4095, api.Front{}, api.ErrRange},
	} {
		if got, errno := pack.Turn(c.x, c.high); got != c.want || errno != c.errno {
			t.Errorf("Turn %v, %d: %v, error %d; want %v, error %d", c.x, c.high, got, errno, c.want, c.errno)
		}
	}
}

func TestTurnMany(t *testing.T) {
	for _, x := range fairFronts() {
		for _, high := range append(wild(), x.Other-1, x.Other, x.Other+1) {
			want, wantErrno := api.Front{Space: 1 - x.Space, Low: x.Other, High: high}, api.OK
			if high < x.Other || high > 4096 {
				want, wantErrno = api.Front{}, api.ErrRange
			}
			if got, errno := pack.Turn(x, high); got != want || errno != wantErrno {
				t.Fatalf("Turn %v, %d: %v, error %d; want %v, error %d", x, high, got, errno, want, wantErrno)
			}
		}
	}
	for _, x := range append(wrongFronts(), fewWrongFronts()...) {
		for _, high := range []int{60, 4096, 4097, -1, x.Other} {
			if got, errno := pack.Turn(x, high); got != (api.Front{}) || errno != api.ErrArg {
				t.Fatalf("Turn %v, %d: %v, error %d; want none, ErrArg", x, high, got, errno)
			}
		}
	}
}

// P2.4

func TestRequestWordsDiffer(t *testing.T) {
	seen := map[uint64]api.Request{}
	for _, first := range []int64{0, 1 << 20, 1 << 39, api.MaxEpoch - 2000} {
		for epoch := first; epoch <= first+2000; epoch++ {
			for phase := api.PhasePlain; phase <= api.PhaseFlip; phase++ {
				x := api.Request{Epoch: epoch, Phase: phase}
				w, errno := pack.Request(x)
				if y, is := seen[w]; is || errno != api.OK {
					t.Fatalf("Request %v: %d, error %d, which is that of %v", x, w, errno, y)
				}
				seen[w] = x
			}
		}
	}
}

func TestFrontWordsDiffer(t *testing.T) {
	seen := map[uint64]api.Front{}
	add := func(x api.Front) {
		w, errno := pack.Front(x)
		if y, is := seen[w]; is && y != x || errno != api.OK {
			t.Fatalf("Front %v: %d, error %d, which is that of %v", x, w, errno, y)
		}
		seen[w] = x
	}
	for high := range 16 {
		for low := 0; low <= high; low++ {
			for other := 0; low+other <= high; other++ {
				add(api.Front{Low: low, High: high, Other: other})
				add(api.Front{Space: 1, Low: low, High: high, Other: other})
			}
		}
	}
	for _, x := range fairFronts() {
		add(x)
	}
}

func TestClaimsShareNoWord(t *testing.T) {
	const size = 200
	for _, first := range []api.Front{
		{High: 200}, {Space: 1, High: 200}, {Low: 5, High: 150, Other: 7}, {Space: 1, Low: 9, High: 199, Other: 1},
	} {
		x := first
		var taken [2][size]bool
		next := [2]int{first.Low, first.Other}
		if first.Space == 1 {
			next = [2]int{first.Other, first.Low}
		}
		used, _ := pack.Used(x, size)
		for step := 0; pack.Fits(x, 1); step++ {
			space, n := step*step%3%2, 1+step%3
			if !pack.Fits(x, n) {
				n = 1
			}
			y, at, errno := pack.Claim(x, space, n)
			if errno != api.OK || at != next[space] {
				t.Fatalf("Claim %v, %d, %d: at %d, error %d; want it at %d", x, space, n, at, errno, next[space])
			}
			for place := at; place < at+n; place++ {
				if taken[space][place] {
					t.Fatalf("word %d of space %d is claimed twice", place, space)
				}
				taken[space][place] = true
			}
			next[space] += n
			used += n
			if got, errno := pack.Used(y, size); got != used || errno != api.OK {
				t.Fatalf("Used %v: %d, error %d; want %d", y, got, errno, used)
			}
			x = y
		}
		if x.Low+x.Other != x.High || x.High != first.High || x.Space != first.Space {
			t.Errorf("claims of %v end at %v", first, x)
		}
	}
}
