package arena_test

import (
	"fmt"
	"math"
	"slices"
	"testing"

	"lapidary/api"
	"lapidary/arena"
)

const most = 16384 // MaxWords, as the document's table of limits has it

func oddWords() []uint64 {
	return []uint64{0, 1, 2, 3, 7, 16, 17, 1 << 31, 1 << 32, 1 << 63, 1<<63 - 1, math.MaxUint64 - 1, math.MaxUint64}
}

// wrongLengths are numbers of words that no arena has.
func wrongLengths() []int {
	return []int{
		0, -1, -2, -most, most + 1, most + 2, 2 * most, 1 << 16, 1<<32 + 1, -1 << 32, math.MaxInt32, math.MinInt32,
		math.MaxInt, math.MaxInt - 1, math.MinInt, math.MinInt + 1,
	}
}

// outside are numbers that no word of an arena of n words has.
func outside(n int) []int {
	return []int{
		n, n + 1, 2*n + 1, n + most, n + 1<<16, n + 1<<32, 1 << 32, -1, -2, -n, -n - 1, -1 << 32,
		math.MaxInt32, math.MinInt32, math.MaxInt, math.MaxInt - 1, math.MinInt, math.MinInt + 1,
	}
}

// noArenas are those that no call of the package made.
func noArenas() map[string]*arena.Arena {
	refused, _ := arena.New(0)
	refusedWords, _ := arena.Of()
	return map[string]*arena.Arena{
		"nil": nil, "zero": {}, "refused by New": refused, "refused by Of": refusedWords, "copy of none": refused.Copy(),
	}
}

func of(t *testing.T, l ...uint64) *arena.Arena {
	t.Helper()
	a, errno := arena.Of(l...)
	if a == nil || errno != 0 {
		t.Fatalf("Of %d words: %v, %d", len(l), a, errno)
	}
	return a
}

func made(t *testing.T, n int) *arena.Arena {
	t.Helper()
	a, errno := arena.New(n)
	if a == nil || errno != 0 {
		t.Fatalf("New(%d): %v, %d", n, a, errno)
	}
	return a
}

// holds asks for each word of an arena, by all means that there are.
func holds(t *testing.T, a *arena.Arena, want ...uint64) {
	t.Helper()
	if a.Len() != len(want) {
		t.Fatalf("it has %d words; not %d", a.Len(), len(want))
	}
	for at, w := range want {
		if got, errno := a.Load(at); got != w || errno != 0 {
			t.Errorf("Load(%d) = %d, %d; not %d", at, got, errno, w)
		}
	}
	next := 0
	for at, w := range a.All() {
		if at != next || at >= len(want) || w != want[at] {
			t.Fatalf("All tells %d at %d, behind %d words of %v", w, at, next, want)
		}
		next++
	}
	if next != len(want) {
		t.Errorf("All tells %d words; not %d", next, len(want))
	}
}

// counted are n words, no two the same, none 0.
func counted(n int) []uint64 {
	l := make([]uint64, n)
	for i := range l {
		l[i] = uint64(i+1) * 0x9e3779b97f4a7c15
	}
	return l
}

// P5.1: New at its bounds; all words are 0 at first.
func TestNew(t *testing.T) {
	for _, n := range []int{1, 2, 3, 64, 1000, most - 1, most} {
		holds(t, made(t, n), make([]uint64, n)...)
	}
}

// P5.1: numbers of words that may not be.
func TestNewRefuses(t *testing.T) {
	for _, n := range wrongLengths() {
		if a, errno := arena.New(n); a != nil || errno != 2 {
			t.Errorf("New(%d) = %v, %d", n, a, errno)
		}
	}
}

// P5.1: Of at its bounds.
func TestOf(t *testing.T) {
	for _, n := range []int{1, 2, 3, 64, 1000, most - 1, most} {
		holds(t, of(t, counted(n)...), counted(n)...)
	}
	holds(t, of(t, oddWords()...), oddWords()...)
	holds(t, of(t, 0), 0)
	holds(t, of(t, 5, 5, 5), 5, 5, 5)
}

// P5.1: no word, nil and empty alike, and more than there may be.
func TestOfRefuses(t *testing.T) {
	for _, l := range [][]uint64{nil, {}, counted(8)[:0], counted(most + 1), counted(most + 2), make([]uint64, 1<<20)} {
		if a, errno := arena.Of(l...); a != nil || errno != 2 {
			t.Errorf("Of %d words: %v, %d", len(l), a, errno)
		}
	}
	if a, errno := arena.Of(); a != nil || errno != 2 {
		t.Errorf("Of() = %v, %d", a, errno)
	}
}

// Rules: the list that is handed to Of is neither kept nor changed, spare room behind it included.
func TestOfKeepsNoList(t *testing.T) {
	whole := counted(5)
	a := of(t, whole[:3]...)
	a.Store(0, 70)
	a.Cas(2, counted(3)[2], 71)
	if !slices.Equal(whole, counted(5)) {
		t.Errorf("the list became %v", whole)
	}
	for i := range whole {
		whole[i] = 9
	}
	holds(t, a, 70, counted(3)[1], 71)
}

// P5.1: two arenas that were made alike go on apart.
func TestArenasAreApart(t *testing.T) {
	l := counted(3)
	a, b := of(t, l...), of(t, l...)
	c, d := made(t, 3), made(t, 3)
	a.Store(1, 8)
	c.Store(1, 8)
	holds(t, a, l[0], 8, l[2])
	holds(t, b, l...)
	holds(t, c, 0, 8, 0)
	holds(t, d, 0, 0, 0)
}

// mayBe says by the document's words whether an access may be.
func mayBe(x api.Access) bool {
	switch x.Kind {
	case 0:
		return x.At == 0 && x.Old == 0 && x.New == 0
	case 1:
		return x.Old == 0 && x.New == 0
	case 2:
		return x.Old == 0
	}
	return x.Kind == 3
}

func someAccesses() []api.Access {
	var l []api.Access
	for _, kind := range []api.AccKind{0, 1, 2, 3, 4, 5, -1, -2, 7, 256, 259, 1 << 32, 1<<32 + 1, math.MaxInt, math.MinInt} {
		for _, at := range append(outside(3), 0, 1, 2) {
			for _, old := range []uint64{0, 1, 6, 1 << 63, math.MaxUint64} {
				for _, now := range []uint64{0, 1, 6, 1 << 63, math.MaxUint64} {
					l = append(l, api.Access{Kind: kind, At: at, Old: old, New: now})
				}
			}
		}
	}
	return l
}

// P5.1: Check of every kind, wherever At is, with each thing that a kind names or does not.
func TestCheck(t *testing.T) {
	for _, x := range someAccesses() {
		want := api.Errno(2)
		if mayBe(x) {
			want = 0
		}
		if errno := arena.Check(x); errno != want {
			t.Errorf("Check(%+v) = %d; not %d", x, errno, want)
		}
	}
}

// P5.1: what each kind does not name, one thing at a time.
func TestCheckByHand(t *testing.T) {
	for _, row := range []struct {
		access api.Access
		want   api.Errno
	}{
		{api.Access{}, api.OK},
		{api.Access{At: 1}, api.ErrArg},
		{api.Access{At: -1}, api.ErrArg},
		{api.Access{Old: 1}, api.ErrArg},
		{api.Access{New: 1}, api.ErrArg},
		{api.Access{Kind: api.AccLoad}, api.OK},
		{api.Access{Kind: api.AccLoad, At: math.MinInt}, api.OK},
		{api.Access{Kind: api.AccLoad, At: math.MaxInt}, api.OK},
		{api.Access{Kind: api.AccLoad, Old: 1}, api.ErrArg},
		{api.Access{Kind: api.AccLoad, New: 1}, api.ErrArg},
		{api.Access{Kind: api.AccStore}, api.OK},
		{api.Access{Kind: api.AccStore, At: -1, New: math.MaxUint64}, api.OK},
		{api.Access{Kind: api.AccStore, Old: 1}, api.ErrArg},
		{api.Access{Kind: api.AccCas}, api.OK},
		{api.Access{Kind: api.AccCas, At: math.MaxInt, Old: 1, New: 2}, api.OK},
		{api.Access{Kind: 4}, api.ErrArg},
		{api.Access{Kind: -1}, api.ErrArg},
	} {
		if errno := arena.Check(row.access); errno != row.want {
			t.Errorf("Check(%+v) = %d; not %d", row.access, errno, row.want)
		}
	}
}

// P5.1: All is whole as often as it is gone over, wherever it was left.
func TestAllIsLeft(t *testing.T) {
	l := counted(6)
	a := of(t, l...)
	all := a.All()
	for leave := range l {
		var got []uint64
		for at, w := range all {
			got = append(got, w)
			if at == leave {
				break
			}
		}
		if !slices.Equal(got, l[:leave+1]) {
			t.Errorf("left at %d, it tells %v", leave, got)
		}
	}
	for range 2 {
		var got []uint64
		for _, w := range all {
			got = append(got, w)
		}
		if !slices.Equal(got, l) {
			t.Errorf("gone over again, it tells %v", got)
		}
	}
	holds(t, a, l...)
}

// P5.1: All may be gone over while it is gone over.
func TestAllWithinAll(t *testing.T) {
	l := counted(4)
	all := of(t, l...).All()
	var got []uint64
	for range all {
		for _, w := range all {
			got = append(got, w)
		}
	}
	if !slices.Equal(got, slices.Repeat(l, 4)) {
		t.Errorf("within itself it tells %v", got)
	}
}

// P5.1: each word is told as it is when it is told: what is stored ahead is seen, what is stored behind is not told again.
func TestAllTellsWhatWasStoredMeanwhile(t *testing.T) {
	a := of(t, 10, 20, 30, 40)
	all := a.All()
	a.Store(0, 11)
	var got []uint64
	for at, w := range all {
		got = append(got, w)
		a.Store(at, 99)
		a.Store(at+1, w+1)
		a.Cas(3, 40, 50)
	}
	if want := []uint64{11, 12, 13, 14}; !slices.Equal(got, want) {
		t.Errorf("it tells %v; not %v", got, want)
	}
	holds(t, a, 99, 99, 99, 99)

	b := of(t, 1, 2, 3)
	got = nil
	for at, w := range b.All() {
		got = append(got, w)
		if at == 0 {
			b.Store(0, 7)
			b.Cas(2, 3, 8)
		}
	}
	if want := []uint64{1, 2, 8}; !slices.Equal(got, want) {
		t.Errorf("it tells %v; not %v", got, want)
	}
}

// P5.2: at the first, a middle and the last word, each access is done and answered, by its own call and by Do.
func TestAccesses(t *testing.T) {
	for _, n := range []int{1, 2, 3, most} {
		for _, at := range []int{0, n / 2, n - 1} {
			l := counted(n)
			a, b := of(t, l...), of(t, l...)
			if w, errno := a.Load(at); w != l[at] || errno != 0 {
				t.Errorf("Load(%d) = %d, %d", at, w, errno)
			}
			if w, errno := b.Do(api.Access{Kind: 1, At: at}); w != l[at] || errno != 0 {
				t.Errorf("load %d: %d, %d", at, w, errno)
			}
			if errno := a.Store(at, 4); errno != 0 {
				t.Errorf("Store(%d, 4) = %d", at, errno)
			}
			if w, errno := b.Do(api.Access{Kind: 2, At: at, New: 4}); w != 0 || errno != 0 {
				t.Errorf("store %d: %d, %d", at, w, errno)
			}
			l[at] = 4
			holds(t, a, l...)
			holds(t, b, l...)
			if w, errno := a.Cas(at, 5, 6); w != 4 || errno != 0 {
				t.Errorf("Cas(%d, 5, 6) = %d, %d", at, w, errno)
			}
			if w, errno := b.Do(api.Access{Kind: 3, At: at, Old: 5, New: 6}); w != 4 || errno != 0 {
				t.Errorf("cas %d from 5: %d, %d", at, w, errno)
			}
			holds(t, a, l...)
			holds(t, b, l...)
			if w, errno := a.Cas(at, 4, 6); w != 4 || errno != 0 {
				t.Errorf("Cas(%d, 4, 6) = %d, %d", at, w, errno)
			}
			if w, errno := b.Do(api.Access{Kind: 3, At: at, Old: 4, New: 6}); w != 4 || errno != 0 {
				t.Errorf("cas %d from 4: %d, %d", at, w, errno)
			}
			l[at] = 6
			holds(t, a, l...)
			holds(t, b, l...)
		}
	}
}

// P5.2: compare-and-swaps of all odd words, whose Old stands there and whose does not, with New the same as Old or not.
func TestCas(t *testing.T) {
	for _, stood := range oddWords() {
		for _, old := range oddWords() {
			for _, now := range oddWords() {
				a := of(t, 5, stood, 5)
				if w, errno := a.Cas(1, old, now); w != stood || errno != 0 {
					t.Errorf("where %d stood, Cas(1, %d, %d) = %d, %d", stood, old, now, w, errno)
				}
				want := stood
				if stood == old {
					want = now
				}
				holds(t, a, 5, want, 5)
			}
		}
	}
}

// P5.2: none does nothing, and is answered 0.
func TestDoNone(t *testing.T) {
	for _, n := range []int{1, 2, most} {
		a := of(t, counted(n)...)
		if w, errno := a.Do(api.Access{}); w != 0 || errno != 0 {
			t.Errorf("none: %d, %d", w, errno)
		}
		holds(t, a, counted(n)...)
	}
}

// P5.2: numbers that no word has; nothing is done.
func TestAccessesRefuseNumbers(t *testing.T) {
	for _, n := range []int{1, 2, 3, 64, most} {
		a := of(t, counted(n)...)
		for _, at := range outside(n) {
			if w, errno := a.Load(at); w != 0 || errno != 4 {
				t.Errorf("of %d words: Load(%d) = %d, %d", n, at, w, errno)
			}
			if errno := a.Store(at, 9); errno != 4 {
				t.Errorf("of %d words: Store(%d, 9) = %d", n, at, errno)
			}
			for _, old := range []uint64{0, counted(n)[0], counted(n)[n-1]} {
				if w, errno := a.Cas(at, old, 9); w != 0 || errno != 4 {
					t.Errorf("of %d words: Cas(%d, %d, 9) = %d, %d", n, at, old, w, errno)
				}
			}
			for kind := range api.AccKind(3) {
				if w, errno := a.Do(api.Access{Kind: kind + 1, At: at}); w != 0 || errno != 4 {
					t.Errorf("of %d words: kind %d at %d: %d, %d", n, kind+1, at, w, errno)
				}
			}
		}
		holds(t, a, counted(n)...)
	}
}

// P5.2: what may not be is told ahead of a number that no word has, and nothing is done; what may be is done.
func TestDo(t *testing.T) {
	for _, x := range someAccesses() {
		l := []uint64{6, 1, math.MaxUint64}
		a := of(t, l...)
		w, errno := a.Do(x)
		switch {
		case !mayBe(x):
			if w != 0 || errno != 2 {
				t.Errorf("Do(%+v) = %d, %d; not ErrArg", x, w, errno)
			}
		case x.Kind != 0 && (x.At < 0 || x.At > 2):
			if w != 0 || errno != 4 {
				t.Errorf("Do(%+v) = %d, %d; not ErrRange", x, w, errno)
			}
		default:
			want := done(l, x)
			if w != want || errno != 0 {
				t.Errorf("Do(%+v) = %d, %d; not %d", x, w, errno, want)
			}
		}
		holds(t, a, l...)
	}
}

// done does an access that may be on a list, as the document says.
func done(l []uint64, x api.Access) uint64 {
	if x.Kind == 0 {
		return 0
	}
	stood := l[x.At]
	if x.Kind == 2 || x.Kind == 3 && stood == x.Old {
		l[x.At] = x.New
	}
	if x.Kind == 2 {
		return 0
	}
	return stood
}

// P5.4: a long run of accesses against a list: one word at most changes, what was stored is loaded.
func TestLongRun(t *testing.T) {
	for _, n := range []int{1, 2, 5} {
		a, l := made(t, n), make([]uint64, n)
		state := uint64(n)
		pick := func(below int) int {
			state = state*6364136223846793005 + 1442695040888963407
			return int(state >> 33 % uint64(below))
		}
		for range 20000 {
			x := api.Access{Kind: api.AccKind(pick(4))}
			if x.Kind != 0 {
				x.At = pick(n)
			}
			if x.Kind == 3 {
				x.Old = oddWords()[pick(4)]
			}
			if x.Kind >= 2 {
				x.New = oddWords()[pick(4)]
			}
			before := slices.Clone(l)
			want := done(l, x)
			if w, errno := a.Do(x); w != want || errno != 0 {
				t.Fatalf("on %v: Do(%+v) = %d, %d; not %d", before, x, w, errno, want)
			}
			changed := 0
			for at, w := range a.All() {
				if w != l[at] {
					t.Fatalf("behind %+v on %v, word %d is %d; not %d", x, before, at, w, l[at])
				}
				if w != before[at] {
					changed++
				}
			}
			if changed > 1 {
				t.Fatalf("%+v changed %d words", x, changed)
			}
		}
	}
}

// P5.4: of compare-and-swaps with the same Old at one place one alone goes well, whichever comes first.
func TestOneCasGoesWell(t *testing.T) {
	for _, n := range []int{1, 3} {
		for at := range n {
			for first := range 4 {
				a := made(t, n)
				for i := range a.Len() {
					a.Store(i, 50)
				}
				well := 0
				for i := range 4 {
					now := uint64(60 + (first+i)%4)
					w, errno := a.Cas(at, 50, now)
					if errno != 0 {
						t.Fatal(errno)
					}
					if w == 50 {
						well++
					}
				}
				if w, _ := a.Load(at); well != 1 || w != uint64(60+first) {
					t.Errorf("%d went well, and %d stands there", well, w)
				}
			}
		}
	}
}

// P5.4: what was stored is loaded, till something is stored there, whatever is done elsewhere.
func TestStoredIsLoaded(t *testing.T) {
	for at := range 4 {
		for _, stored := range oddWords() {
			a := made(t, 4)
			a.Store(at, stored)
			for other := range 4 {
				if other != at {
					a.Store(other, stored+1)
					a.Cas(other, stored+1, 77)
				}
			}
			a.Cas(at, stored+1, 88)
			a.Do(api.Access{})
			for range 2 {
				if w, errno := a.Load(at); w != stored || errno != 0 {
					t.Errorf("%d was stored at %d, %d is loaded, %d", stored, at, w, errno)
				}
			}
			a.Store(at, stored+2)
			if w, errno := a.Load(at); w != stored+2 || errno != 0 {
				t.Errorf("%d was stored at %d, %d is loaded, %d", stored+2, at, w, errno)
			}
		}
	}
}

// P5.3: a copy has the same words, and goes on apart, and so does a copy of it.
func TestCopy(t *testing.T) {
	for _, n := range []int{1, 2, 3, most} {
		l := counted(n)
		a := of(t, l...)
		b := a.Copy()
		c := b.Copy()
		if b == nil || c == nil || b == a || c == b || c == a {
			t.Fatalf("of %d words: %p, %p, %p", n, a, b, c)
		}
		holds(t, b, l...)
		a.Store(0, 1)
		b.Store(n-1, 2)
		c.Cas(n/2, l[n/2], 3)
		for _, x := range []struct {
			arena *arena.Arena
			at    int
			word  uint64
		}{{a, 0, 1}, {b, n - 1, 2}, {c, n / 2, 3}} {
			want := slices.Clone(l)
			want[x.at] = x.word
			holds(t, x.arena, want...)
		}
	}
}

// P5.3: arenas of as many words that differ nowhere, at each place, at several.
func TestSameAndUnlike(t *testing.T) {
	for _, n := range []int{1, 2, 3, 9} {
		l := counted(n)
		for differ := range 1 << n {
			m := slices.Clone(l)
			var want []int
			for at := range n {
				if differ>>at&1 == 1 {
					m[at] ^= 1 << (7 * at)
					want = append(want, at)
				}
			}
			a, b := of(t, l...), of(t, m...)
			for range 2 {
				if got := arena.Unlike(a, b); !slices.Equal(got, want) {
					t.Errorf("Unlike: %v; not %v", got, want)
				}
				if got := arena.Same(a, b); got != (differ == 0) {
					t.Errorf("Same: %v, though they differ at %v", got, want)
				}
				a, b = b, a
			}
			holds(t, a, l...)
			holds(t, b, m...)
		}
	}
}

// P5.3: of arenas of MaxWords words the first word, the last one and all count.
func TestSameAndUnlikeOfLongArenas(t *testing.T) {
	a, b := of(t, counted(most)...), of(t, counted(most)...)
	for _, at := range []int{most - 1, most / 2, 0} {
		c := a.Copy()
		c.Store(at, 0)
		if got := arena.Unlike(a, c); !slices.Equal(got, []int{at}) || arena.Same(a, c) {
			t.Errorf("at %d: %v, %v", at, got, arena.Same(a, c))
		}
	}
	if got := arena.Unlike(a, b); len(got) != 0 || !arena.Same(a, b) {
		t.Errorf("the same words: %d places, %v", len(got), arena.Same(a, b))
	}
	got := arena.Unlike(a, made(t, most))
	if len(got) != most || !slices.IsSorted(got) || got[0] != 0 || got[most-1] != most-1 {
		t.Errorf("%d places", len(got))
	}
}

// P5.3: an arena and itself.
func TestSameAndUnlikeOfItself(t *testing.T) {
	for _, n := range []int{1, 3, most} {
		a := of(t, counted(n)...)
		if got := arena.Unlike(a, a); len(got) != 0 || !arena.Same(a, a) {
			t.Errorf("of %d words: %v, %v", n, got, arena.Same(a, a))
		}
	}
}

// P5.3: arenas that have not as many words, though those that both have are the same, or are not.
func TestSameAndUnlikeOfUnlikeLengths(t *testing.T) {
	lengths := []int{1, 2, 3, most - 1, most}
	for _, n := range lengths {
		for _, m := range lengths {
			if n == m {
				continue
			}
			for _, b := range []*arena.Arena{of(t, counted(m)...), made(t, m)} {
				a := of(t, counted(n)...)
				if got := arena.Unlike(a, b); len(got) != 0 || arena.Same(a, b) {
					t.Errorf("of %d and %d words: %v, %v", n, m, got, arena.Same(a, b))
				}
			}
			if arena.Same(made(t, n), made(t, m)) || len(arena.Unlike(made(t, n), made(t, m))) != 0 {
				t.Errorf("of %d and %d noughts", n, m)
			}
		}
	}
}

// Rules: what is done to an answer of Unlike is not seen in the next one.
func TestUnlikeAnswersNewLists(t *testing.T) {
	a, b := of(t, 1, 2, 3, 4), of(t, 1, 0, 3, 0)
	first := arena.Unlike(a, b)
	first = append(first[:0], 8, 9)
	if got := arena.Unlike(a, b); !slices.Equal(got, []int{1, 3}) {
		t.Errorf("behind %v: %v", first, got)
	}
	holds(t, a, 1, 2, 3, 4)
	holds(t, b, 1, 0, 3, 0)
}

// P5.2: of no arena ErrNil is told ahead of all else.
func TestAccessesOfNone(t *testing.T) {
	for name, a := range noArenas() {
		for _, at := range append(outside(3), 0, 1, 2) {
			if w, errno := a.Load(at); w != 0 || errno != 1 {
				t.Errorf("%s: Load(%d) = %d, %d", name, at, w, errno)
			}
			if errno := a.Store(at, 5); errno != 1 {
				t.Errorf("%s: Store(%d, 5) = %d", name, at, errno)
			}
			if w, errno := a.Cas(at, 0, 5); w != 0 || errno != 1 {
				t.Errorf("%s: Cas(%d, 0, 5) = %d, %d", name, at, w, errno)
			}
		}
		for _, x := range someAccesses() {
			if w, errno := a.Do(x); w != 0 || errno != 1 {
				t.Errorf("%s: Do(%+v) = %d, %d", name, x, w, errno)
			}
		}
	}
}

// P5.1, P5.3: no arena has no word, All of it is there and tells nothing, and its copy is none.
func TestLenAllAndCopyOfNone(t *testing.T) {
	for name, a := range noArenas() {
		if a.Len() != 0 {
			t.Errorf("%s: Len is %d", name, a.Len())
		}
		if b := a.Copy(); b != nil {
			t.Errorf("%s: its copy is there", name)
		}
		all := a.All()
		if all == nil {
			t.Fatalf("%s: All is not there", name)
		}
		for at, w := range all {
			t.Errorf("%s: All tells %d at %d", name, w, at)
		}
	}
}

// P5.3: none is like none alone, and unlike nothing.
func TestSameAndUnlikeOfNone(t *testing.T) {
	for name, a := range noArenas() {
		for other, b := range noArenas() {
			if !arena.Same(a, b) {
				t.Errorf("%s and %s are not the same", name, other)
			}
			if got := arena.Unlike(a, b); len(got) != 0 {
				t.Errorf("%s and %s: %v", name, other, got)
			}
		}
		for _, n := range []int{1, 3, most} {
			b := made(t, n)
			if arena.Same(a, b) || arena.Same(b, a) {
				t.Errorf("%s and %d words are the same", name, n)
			}
			if l, m := arena.Unlike(a, b), arena.Unlike(b, a); len(l) != 0 || len(m) != 0 {
				t.Errorf("%s and %d words: %v, %v", name, n, l, m)
			}
		}
	}
}

// The examples of the chapter.
func TestExamples(t *testing.T) {
	a := made(t, 3)
	answer := func(w uint64, errno api.Errno) string { return fmt.Sprint(w, " ", int(errno)) }
	for _, row := range []struct{ got, want string }{
		{answer(a.Cas(1, 0, 7)), "0 0"},
		{answer(a.Cas(1, 0, 8)), "7 0"},
		{answer(a.Load(1)), "7 0"},
		{answer(a.Load(3)), "0 4"},
		{answer(a.Do(api.Access{Kind: api.AccLoad, At: 1, New: 5})), "0 2"},
		{answer(a.Do(api.Access{Kind: api.AccStore, At: 2, New: 9})), "0 0"},
		{fmt.Sprint(a.Len()), "3"},
	} {
		if row.got != row.want {
			t.Errorf("%s; not %s", row.got, row.want)
		}
	}
	holds(t, a, 0, 7, 9)
}
