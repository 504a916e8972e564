package arena_test

import (
	"bytes"
	"fmt"
	"math"
	"slices"
	"testing"

	"winepress/api"
	"winepress/arena"
)

// wild holds numbers that no count or offset of an arena reaches; some wrap around to small ones when multiplied by 4.
var wild = []int{
	math.MinInt, math.MinInt + 1, -1 << 62, -1<<62 + 1, -1 << 61, -1 << 32, -1 << 31, -api.MaxBudget, -4, -1,
	api.MaxBudget + 1, 1<<30 + 1, 1 << 31, 1<<32 + 1, 1 << 61, 1<<61 + 1, 1 << 62, 1<<62 + 1, math.MaxInt - 1, math.MaxInt,
}

// view is all that can be seen of an arena without a span of one's own.
type view struct {
	mark, left, peak int
	live             string
}

func viewOf(a *arena.Arena) view {
	return view{a.Mark(), a.Left(), a.Peak(), string(a.Load(api.Span{Len: a.Mark()}))}
}

func (v view) String() string {
	return fmt.Sprintf("mark %d, left %d, peak %d, live %v", v.mark, v.left, v.peak, []byte(v.live))
}

func newArena(t *testing.T, budget int) *arena.Arena {
	t.Helper()
	a, e := arena.New(budget)
	if a == nil || e != api.OK {
		t.Fatalf("New(%d): %v, %d", budget, a, e)
	}
	return a
}

func take(t *testing.T, a *arena.Arena, n int) api.Span {
	t.Helper()
	want := api.Span{At: a.Mark(), Len: n}
	s, e := a.Take(n)
	if s != want || e != api.OK {
		t.Fatalf("Take(%d): %v, %d, want %v", n, s, e, want)
	}
	return s
}

func store(t *testing.T, a *arena.Arena, s api.Span, at int, b ...byte) {
	t.Helper()
	if !a.Store(s, at, b...) {
		t.Fatalf("Store(%v, %d) of %d bytes is refused", s, at, len(b))
	}
}

// filled returns an arena with live bytes 1, 2, 3 and so on.
func filled(t *testing.T, budget, live int) *arena.Arena {
	t.Helper()
	a := newArena(t, budget)
	s := take(t, a, live)
	for i := range live {
		if !a.SetByte(s, i, byte(i+1)) {
			t.Fatalf("SetByte(%v, %d) is refused", s, i)
		}
	}
	return a
}

func wantView(t *testing.T, what string, a *arena.Arena, want view) {
	t.Helper()
	if got := viewOf(a); got != want {
		t.Errorf("%s: %v, want %v", what, got, want)
	}
}

func wantLoad(t *testing.T, a *arena.Arena, s api.Span, want ...byte) {
	t.Helper()
	if got := a.Load(s); !bytes.Equal(got, want) {
		t.Errorf("Load(%v): %v, want %v", s, got, want)
	}
}

// deadSpans returns spans that are not live in an arena with that many live bytes.
func deadSpans(live int) []api.Span {
	spans := []api.Span{
		{At: 0, Len: live + 1}, {At: 1, Len: live}, {At: live, Len: 1}, {At: live + 1, Len: 0}, {At: live + 1, Len: -1},
		{At: live, Len: -1}, {At: live, Len: -live}, {At: -1, Len: 1}, {At: -1, Len: 2}, {At: -live, Len: live}, {At: -4, Len: live},
	}
	for _, n := range wild {
		spans = append(spans, api.Span{At: n}, api.Span{Len: n}, api.Span{At: n, Len: 1}, api.Span{At: 1, Len: n})
		for _, m := range wild {
			spans = append(spans, api.Span{At: n, Len: m})
		}
	}
	return spans
}

// P1.1

func TestNewGivesAnEmptyArena(t *testing.T) {
	for _, budget := range []int{1, 2, 3, 4, 10, 65536, api.MaxBudget - 1, api.MaxBudget} {
		a := newArena(t, budget)
		wantView(t, "new", a, view{0, budget, 0, ""})
		if !a.Has(api.Span{}) || a.Has(api.Span{Len: 1}) || a.Has(api.Span{At: 1}) {
			t.Errorf("New(%d) has other live spans than the empty one at 0", budget)
		}
	}
}

func TestNewRefusesBudget(t *testing.T) {
	for _, budget := range append([]int{0}, wild...) {
		if a, e := arena.New(budget); a != nil || e != api.ErrArg {
			t.Errorf("New(%d): %v, %d", budget, a, e)
		}
	}
}

func TestWholeBudgetIsUsable(t *testing.T) {
	for _, budget := range []int{1, 7, api.MaxBudget} {
		a := newArena(t, budget)
		s := take(t, a, budget)
		if a.Left() != 0 || a.Mark() != budget || a.Peak() != budget || !a.Has(s) {
			t.Errorf("budget %d: Left %d, Mark %d, Peak %d", budget, a.Left(), a.Mark(), a.Peak())
		}
		if !a.SetByte(s, budget-1, 7) {
			t.Errorf("budget %d: the last byte is refused", budget)
		}
		if c, ok := a.Byte(s, budget-1); c != 7 || !ok {
			t.Errorf("budget %d: the last byte is %d, %v", budget, c, ok)
		}
	}
}

func TestMarkLeftAndPeak(t *testing.T) {
	a := newArena(t, 10)
	take(t, a, 4)
	wantView(t, "after Take 4", a, view{4, 6, 4, "\x00\x00\x00\x00"})
	take(t, a, 3)
	wantView(t, "after Take 3", a, view{7, 3, 7, "\x00\x00\x00\x00\x00\x00\x00"})
	a.Release(1)
	wantView(t, "after Release 1", a, view{1, 9, 7, "\x00"})
	take(t, a, 6)
	if a.Peak() != 7 {
		t.Errorf("the peak was reached again: %d", a.Peak())
	}
	take(t, a, 1)
	if a.Peak() != 8 {
		t.Errorf("the peak was passed: %d", a.Peak())
	}
	a.Release(0)
	wantView(t, "after Release 0", a, view{0, 10, 8, ""})
}

func TestHasIsAboutLiveBytes(t *testing.T) {
	a := newArena(t, 12)
	take(t, a, 5)
	take(t, a, 3)
	for at := range 9 {
		for n := range 9 - at {
			if s := (api.Span{At: at, Len: n}); !a.Has(s) {
				t.Errorf("%v is live", s)
			}
		}
	}
	for _, s := range deadSpans(8) {
		if a.Has(s) {
			t.Errorf("%v is not live", s)
		}
	}
	a.Release(4)
	if a.Has(api.Span{Len: 5}) || a.Has(api.Span{At: 5, Len: 3}) || a.Has(api.Span{At: 5}) || !a.Has(api.Span{Len: 4}) || !a.Has(api.Span{At: 4}) {
		t.Error("Has after Release 4")
	}
}

// P1.2

func TestTakeFollowsTheLiveBytes(t *testing.T) {
	a := newArena(t, 10)
	for _, n := range []int{3, 0, 1, 0, 6, 0} {
		take(t, a, n)
	}
	if a.Left() != 0 {
		t.Errorf("Left %d", a.Left())
	}
}

func TestTakeErrors(t *testing.T) {
	for _, live := range []int{0, 6, 10} {
		a := filled(t, 10, live)
		before := viewOf(a)
		for _, n := range append([]int{a.Left() + 1, 11}, wild...) {
			want := api.ErrNoSpace
			if n < 0 {
				want = api.ErrArg
			}
			if s, e := a.Take(n); s != (api.Span{}) || e != want {
				t.Errorf("%d live: Take(%d): %v, %d", live, n, s, e)
			}
			wantView(t, "after a refused Take", a, before)
		}
		take(t, a, a.Left())
	}
}

func TestTakeSetsItsBytesToZero(t *testing.T) {
	a := filled(t, 10, 10)
	for _, n := range []int{1, 2, 5, 7} {
		a.Release(3)
		wantLoad(t, a, take(t, a, n), make([]byte, n)...)
		wantLoad(t, a, api.Span{Len: 3}, 1, 2, 3)
		store(t, a, api.Span{At: 3, Len: n}, 0, bytes.Repeat([]byte{255}, n)...)
	}
	a.Release(3)
	take(t, a, 4)
	wantLoad(t, a, take(t, a, 3), 0, 0, 0)
}

func TestTakeClearsAllOfALargeSpan(t *testing.T) {
	a := newArena(t, api.MaxBudget)
	ones := bytes.Repeat([]byte{255}, api.MaxBudget)
	store(t, a, take(t, a, api.MaxBudget), 0, ones...)
	a.Release(1)
	if b := a.Load(take(t, a, api.MaxBudget-1)); !bytes.Equal(b, make([]byte, api.MaxBudget-1)) {
		t.Error("a byte is not 0")
	}
	wantLoad(t, a, api.Span{Len: 1}, 255)
}

func TestRelease(t *testing.T) {
	const live = "\x01\x02\x03\x04\x05\x06\x07\x08"
	for mark := range 9 {
		a := filled(t, 10, 8)
		if !a.Release(mark) {
			t.Errorf("Release(%d) is refused", mark)
		}
		wantView(t, "after Release", a, view{mark, 10 - mark, 8, live[:mark]})
	}
}

func TestReleaseRefusesMark(t *testing.T) {
	for _, live := range []int{0, 8, 10} {
		a := filled(t, 10, live)
		before := viewOf(a)
		for _, mark := range append([]int{live + 1, 11}, wild...) {
			if a.Release(mark) {
				t.Errorf("%d live: Release(%d)", live, mark)
			}
			wantView(t, "after a refused Release", a, before)
		}
	}
	a := filled(t, 10, 8)
	a.Release(4)
	if a.Release(5) || a.Release(8) || a.Mark() != 4 {
		t.Errorf("Release went up again: Mark %d", a.Mark())
	}
}

// P1.3

func TestBytes(t *testing.T) {
	a := filled(t, 12, 9)
	s := api.Span{At: 2, Len: 5}
	for i := range 5 {
		if c, ok := a.Byte(s, i); c != byte(i+3) || !ok {
			t.Errorf("Byte(%d): %d, %v", i, c, ok)
		}
	}
	for i, c := range []byte{200, 0, 255, 1, 128} {
		if !a.SetByte(s, i, c) {
			t.Errorf("SetByte(%d) is refused", i)
		}
		if got, ok := a.Byte(s, i); got != c || !ok {
			t.Errorf("Byte(%d): %d, %v, want %d", i, got, ok, c)
		}
	}
	wantLoad(t, a, api.Span{Len: 9}, 1, 2, 200, 0, 255, 1, 128, 8, 9)
}

func TestBytesOutsideTheSpan(t *testing.T) {
	a := filled(t, 12, 9)
	before := viewOf(a)
	for _, s := range []api.Span{{At: 2, Len: 5}, {At: 2}, {}, {Len: 9}, {At: 9}} {
		for _, i := range append([]int{s.Len, s.Len + 1, -2}, wild...) {
			if c, ok := a.Byte(s, i); c != 0 || ok || a.SetByte(s, i, 77) {
				t.Errorf("byte %d of %v: %d, %v", i, s, c, ok)
			}
		}
	}
	wantView(t, "after refused bytes", a, before)
}

func TestWordsAreLittleEndian(t *testing.T) {
	a := filled(t, 12, 12)
	for at := range 5 {
		for i := range 2 {
			first := uint32(at + 4*i + 1)
			want := first | (first+1)<<8 | (first+2)<<16 | (first+3)<<24
			if v, ok := a.Word(api.Span{At: at, Len: 8}, i); v != want || !ok {
				t.Errorf("word %d of 8 bytes at %d: %x, %v, want %x", i, at, v, ok, want)
			}
		}
	}
	if !a.SetWord(api.Span{At: 1, Len: 9}, 1, 0xf1e2d3c4) {
		t.Error("SetWord is refused")
	}
	wantLoad(t, a, api.Span{Len: 12}, 1, 2, 3, 4, 5, 0xc4, 0xd3, 0xe2, 0xf1, 10, 11, 12)
}

func TestWordsOfTheExample(t *testing.T) {
	a := newArena(t, 10)
	s := take(t, a, 8)
	if !a.SetWord(s, 1, 258) {
		t.Error("SetWord is refused")
	}
	wantLoad(t, a, s, 0, 0, 0, 0, 2, 1, 0, 0)
	if _, e := a.Take(3); e != api.ErrNoSpace || a.Peak() != 8 {
		t.Errorf("Take 3: %d, Peak %d", e, a.Peak())
	}
}

func TestWordsAreReturnedAsSet(t *testing.T) {
	a := newArena(t, 9)
	s := take(t, a, 9)
	values := []uint32{0, 1, 255, 256, 1 << 16, 1<<24 - 1, 1 << 31, math.MaxUint32, 0x01020304, 0x80ff7f00}
	for _, v := range values {
		for i := range 2 {
			if !a.SetWord(s, i, v) {
				t.Errorf("SetWord(%d, %x) is refused", i, v)
			}
			if got, ok := a.Word(s, i); got != v || !ok {
				t.Errorf("Word(%d): %x, %v, want %x", i, got, ok, v)
			}
		}
	}
}

func TestWordAtTheEndOfASpan(t *testing.T) {
	a := filled(t, 16, 16)
	before := viewOf(a)
	for n := range 13 {
		s := api.Span{At: 1, Len: n}
		if n >= 4 {
			v, ok := a.Word(s, n/4-1)
			if !ok || v == 0 || !a.SetWord(s, n/4-1, v) {
				t.Errorf("the last word of %v: %x, %v", s, v, ok)
			}
		}
		for _, i := range append([]int{n / 4, n/4 + 1, n, -2}, wild...) {
			if v, ok := a.Word(s, i); v != 0 || ok || a.SetWord(s, i, 77) {
				t.Errorf("word %d of %v: %x, %v", i, s, v, ok)
			}
		}
	}
	wantView(t, "after refused words", a, before)
}

func TestDeadSpansHoldNothing(t *testing.T) {
	a := filled(t, 12, 12)
	a.Release(8)
	before := viewOf(a)
	for _, s := range deadSpans(8) {
		for _, i := range []int{0, 1, -1, 4, math.MinInt, math.MaxInt, -s.At, -s.Len} {
			c, okByte := a.Byte(s, i)
			v, okWord := a.Word(s, i)
			if c != 0 || okByte || v != 0 || okWord {
				t.Errorf("%d of %v: %d, %v, %d, %v", i, s, c, okByte, v, okWord)
			}
			if a.SetByte(s, i, 77) || a.SetWord(s, i, 77) || a.Store(s, i) || a.Store(s, i, 77) {
				t.Errorf("%d of %v was set", i, s)
			}
		}
		wantLoad(t, a, s)
	}
	wantView(t, "after refused calls", a, before)
}

func TestLoadReturnsThePart(t *testing.T) {
	a := filled(t, 12, 9)
	wantLoad(t, a, api.Span{Len: 9}, 1, 2, 3, 4, 5, 6, 7, 8, 9)
	wantLoad(t, a, api.Span{At: 3, Len: 4}, 4, 5, 6, 7)
	wantLoad(t, a, api.Span{At: 8, Len: 1}, 9)
	wantLoad(t, a, api.Span{At: 9})
	wantLoad(t, a, api.Span{})
}

func TestLoadReturnsNewMemory(t *testing.T) {
	a := filled(t, 12, 9)
	s := api.Span{At: 2, Len: 3}
	b, other := a.Load(s), a.Load(s)
	a.SetByte(s, 0, 50)
	if !bytes.Equal(b, []byte{3, 4, 5}) {
		t.Errorf("the arena shows in the result: %v", b)
	}
	clear(b)
	_ = append(b, 99)
	wantLoad(t, a, api.Span{Len: 9}, 1, 2, 50, 4, 5, 6, 7, 8, 9)
	if !bytes.Equal(other, []byte{3, 4, 5}) {
		t.Errorf("the results share memory: %v", other)
	}
	_ = append(a.Load(api.Span{At: 2}), 99)
	wantLoad(t, a, api.Span{Len: 9}, 1, 2, 50, 4, 5, 6, 7, 8, 9)
}

func TestStore(t *testing.T) {
	s := api.Span{At: 2, Len: 5}
	for at := range 6 {
		for n := range 6 - at {
			a := filled(t, 12, 9)
			b := []byte{101, 102, 103, 104, 105}[:n]
			store(t, a, s, at, b...)
			want := []byte{1, 2, 3, 4, 5, 6, 7, 8, 9}
			copy(want[2+at:], b)
			wantLoad(t, a, api.Span{Len: 9}, want...)
		}
	}
}

func TestStoreRefuses(t *testing.T) {
	a := filled(t, 12, 9)
	before := viewOf(a)
	for _, s := range []api.Span{{At: 2, Len: 5}, {Len: 9}, {At: 9}, {At: 4}, {}} {
		for _, at := range append([]int{s.Len + 1, -2}, wild...) {
			for n := range 4 {
				if a.Store(s, at, make([]byte, n)...) {
					t.Errorf("%d bytes stored at %d of %v", n, at, s)
				}
			}
		}
		for at := range s.Len + 1 {
			for _, n := range []int{s.Len - at + 1, s.Len - at + 2, 20} {
				if a.Store(s, at, make([]byte, n)...) {
					t.Errorf("%d bytes stored at %d of %v", n, at, s)
				}
			}
		}
	}
	wantView(t, "after refused stores", a, before)
}

func TestStoreLeavesItsArgumentsAlone(t *testing.T) {
	a := filled(t, 12, 9)
	b := []byte{11, 12, 13, 14, 15}
	store(t, a, api.Span{At: 1, Len: 5}, 1, b[:3]...)
	a.SetByte(api.Span{Len: 9}, 2, 77)
	a.Store(api.Span{At: 1, Len: 2}, 0, b[:3]...)
	if !bytes.Equal(b, []byte{11, 12, 13, 14, 15}) {
		t.Errorf("the argument is now %v", b)
	}
	clear(b)
	wantLoad(t, a, api.Span{Len: 9}, 1, 2, 77, 12, 13, 6, 7, 8, 9)
}

// The nil arena, and one that New did not make.

func TestNilArena(t *testing.T) {
	var a *arena.Arena
	for _, n := range append([]int{0, 1, 10, api.MaxBudget}, wild...) {
		if s, e := a.Take(n); s != (api.Span{}) || e != api.ErrArg {
			t.Errorf("Take(%d): %v, %d", n, s, e)
		}
		if a.Release(n) {
			t.Errorf("Release(%d)", n)
		}
		for _, s := range []api.Span{{}, {Len: 1}, {At: 1}, {At: n, Len: n}, {At: n}, {Len: n}} {
			refusesAll(t, a, s, n)
		}
	}
	if a.Mark() != 0 || a.Left() != 0 || a.Peak() != 0 {
		t.Errorf("Mark %d, Left %d, Peak %d", a.Mark(), a.Left(), a.Peak())
	}
}

func refusesAll(t *testing.T, a *arena.Arena, s api.Span, i int) {
	t.Helper()
	c, okByte := a.Byte(s, i)
	v, okWord := a.Word(s, i)
	if c != 0 || okByte || v != 0 || okWord || len(a.Load(s)) != 0 || a.Has(s) {
		t.Errorf("%v, %d: %d, %v, %d, %v", s, i, c, okByte, v, okWord)
	}
	if a.SetByte(s, i, 1) || a.SetWord(s, i, 1) || a.Store(s, i) || a.Store(s, i, 1) {
		t.Errorf("%v, %d was set", s, i)
	}
}

func TestZeroArenaDoesNotPanic(t *testing.T) {
	for _, n := range append([]int{0, 1, 4}, wild...) {
		var a arena.Arena
		a.Take(n)
		a.Release(n)
		_ = viewOf(&a)
		for _, s := range []api.Span{{}, {Len: n}, {At: n}, {At: n, Len: n}} {
			a.Has(s)
			a.Byte(s, n)
			a.SetByte(s, n, 1)
			a.Word(s, n)
			a.SetWord(s, n, 1)
			a.Load(s)
			a.Store(s, n, 1)
		}
	}
}

// P1.4

func TestSpansDoNotTouchEachOther(t *testing.T) {
	a := newArena(t, 24)
	var spans []api.Span
	for range 3 {
		spans = append(spans, take(t, a, 8))
	}
	store(t, a, spans[0], 0, 1, 1, 1, 1, 1, 1, 1, 1)
	store(t, a, spans[2], 0, 3, 3, 3, 3, 3, 3, 3, 3)
	a.SetWord(spans[1], 0, math.MaxUint32)
	a.SetWord(spans[1], 1, math.MaxUint32)
	a.SetByte(spans[1], 0, 254)
	a.SetByte(spans[1], 7, 253)
	a.Store(spans[1], 8, 9)
	wantLoad(t, a, spans[0], 1, 1, 1, 1, 1, 1, 1, 1)
	wantLoad(t, a, spans[1], 254, 255, 255, 255, 255, 255, 255, 253)
	wantLoad(t, a, spans[2], 3, 3, 3, 3, 3, 3, 3, 3)
}

func TestArenasDoNotTouchEachOther(t *testing.T) {
	a := filled(t, 8, 8)
	before := viewOf(a)
	other := newArena(t, 8)
	s := take(t, other, 5)
	store(t, other, s, 0, 50, 51, 52, 53, 54)
	other.Release(2)
	wantView(t, "the first", a, before)
	wantView(t, "the other", other, view{2, 6, 5, "\x32\x33"})
}

// model is what the chapter says of an arena, with nothing shared and nothing saved.
type model struct {
	budget, peak int
	live         []byte
}

func (m *model) take(n int) (api.Span, api.Errno) {
	if n < 0 {
		return api.Span{}, api.ErrArg
	}
	if len(m.live)+n > m.budget {
		return api.Span{}, api.ErrNoSpace
	}
	s := api.Span{At: len(m.live), Len: n}
	m.live = append(m.live, make([]byte, n)...)
	m.peak = max(m.peak, len(m.live))
	return s, api.OK
}

func (m *model) release(mark int) bool {
	if mark < 0 || mark > len(m.live) {
		return false
	}
	m.live = slices.Clone(m.live[:mark])
	return true
}

func (m *model) has(s api.Span) bool {
	return s.At >= 0 && s.Len >= 0 && s.At+s.Len <= len(m.live)
}

func (m *model) store(s api.Span, at int, b ...byte) bool {
	if !m.has(s) || at < 0 || at+len(b) > s.Len {
		return false
	}
	copy(m.live[s.At+at:], b)
	return true
}

func (m *model) load(s api.Span) []byte {
	if !m.has(s) {
		return nil
	}
	return slices.Clone(m.live[s.At : s.At+s.Len])
}

// dice gives numbers that look thrown, the same ones in every run.
type dice uint64

func (d *dice) roll(sides int) int {
	*d = *d*6364136223846793005 + 1442695040888963407
	return int(uint64(*d) >> 33 % uint64(sides))
}

// span returns one that is often live, and otherwise near the edges of what is.
func (d *dice) span(live int) api.Span {
	at := d.roll(live+3) - 1
	return api.Span{At: at, Len: d.roll(max(live-at, 0)+3) - 1}
}

func TestManyCallsFollowTheModel(t *testing.T) {
	for seed := range 40 {
		d := dice(seed)
		budget := 1 + d.roll(40)
		a, m := newArena(t, budget), &model{budget: budget}
		for range 500 {
			stepBoth(t, a, m, &d)
			wantView(t, "the model", a, view{len(m.live), budget - len(m.live), m.peak, string(m.live)})
			if t.Failed() {
				t.Fatalf("seed %d, budget %d", seed, budget)
			}
		}
	}
}

func stepBoth(t *testing.T, a *arena.Arena, m *model, d *dice) {
	t.Helper()
	switch d.roll(7) {
	case 0, 1:
		n := d.roll(m.budget/2+3) - 1
		s, e := a.Take(n)
		if ws, we := m.take(n); s != ws || e != we {
			t.Errorf("Take(%d): %v, %d, want %v, %d", n, s, e, ws, we)
		}
	case 2:
		mark := d.roll(len(m.live)+3) - 1
		if got, want := a.Release(mark), m.release(mark); got != want {
			t.Errorf("Release(%d): %v, want %v", mark, got, want)
		}
	case 3:
		s := d.span(len(m.live))
		b := make([]byte, d.roll(6))
		for i := range b {
			b[i] = byte(d.roll(256))
		}
		at := d.roll(8) - 1
		if got, want := a.Store(s, at, b...), m.store(s, at, b...); got != want {
			t.Errorf("Store(%v, %d, %v): %v, want %v", s, at, b, got, want)
		}
	default:
		itemsBoth(t, a, m, d)
	}
}

func itemsBoth(t *testing.T, a *arena.Arena, m *model, d *dice) {
	t.Helper()
	s, i, v := d.span(len(m.live)), d.roll(12)-1, uint32(d.roll(1<<31))
	if got, want := a.Has(s), m.has(s); got != want {
		t.Errorf("Has(%v): %v, want %v", s, got, want)
	}
	if got, want := a.Load(s), m.load(s); !bytes.Equal(got, want) {
		t.Errorf("Load(%v): %v, want %v", s, got, want)
	}
	if got, want := a.SetWord(s, i, v), m.store(s, 4*i, byte(v), byte(v>>8), byte(v>>16), byte(v>>24)); got != want {
		t.Errorf("SetWord(%v, %d): %v, want %v", s, i, got, want)
	} else if w, ok := a.Word(s, i); ok != want || ok && w != v {
		t.Errorf("Word(%v, %d): %x, %v, want %x", s, i, w, ok, v)
	}
	if got, want := a.SetByte(s, i, byte(v)), m.store(s, i, byte(v)); got != want {
		t.Errorf("SetByte(%v, %d): %v, want %v", s, i, got, want)
	} else if c, ok := a.Byte(s, i); ok != want || ok && c != byte(v) {
		t.Errorf("Byte(%v, %d): %x, %v, want %x", s, i, c, ok, byte(v))
	}
}
