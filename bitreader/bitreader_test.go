package bitreader_test

import (
	"bytes"
	"fmt"
	"math"
	"slices"
	"strings"
	"testing"

	"winepress/bitreader"
)

// wild holds numbers that are no widths; some wrap around to small ones when added, multiplied or cut to fewer bits.
var wild = []int{
	math.MinInt, math.MinInt + 1, -1 << 62, -1 << 61, -1<<61 + 1, -1 << 32, -1<<32 + 3, -1 << 31, -256, -33, -32, -8, -7, -2, -1,
	33, 34, 39, 40, 41, 63, 64, 65, 128, 256, 256 + 8,
	1 << 31, 1 << 32, 1<<32 + 1, 1<<60 + 1, 1 << 61, 1<<61 + 1, 1 << 62, math.MaxInt - 32, math.MaxInt - 7, math.MaxInt - 1, math.MaxInt,
}

// digitsOf writes the bits of a byte string as digits 0 and 1.
func digitsOf(b []byte) string {
	var s strings.Builder
	for _, c := range b {
		fmt.Fprintf(&s, "%08b", c)
	}
	return s.String()
}

// number reads a string of digits.
func number(s string) uint32 {
	var v uint32
	for _, c := range s {
		v = 2*v + uint32(c-'0')
	}
	return v
}

// dice gives numbers that look thrown, the same ones in every run.
type dice uint64

func (d *dice) roll(sides int) int {
	*d = *d*6364136223846793005 + 1442695040888963407
	return int(uint64(*d) >> 33 % uint64(sides))
}

func (d *dice) bytes(n int) []byte {
	b := make([]byte, n)
	for i := range b {
		b[i] = byte(d.roll(256))
	}
	return b
}

// model is a reader in plain terms: the digits fed, and how many of them are used.
type model struct {
	fed   string
	used  int
	ended bool
}

func (m *model) left() string { return m.fed[m.used:] }

func (m *model) peek(width int) (uint32, bool) {
	if width < 0 || width > 32 || width > len(m.left()) {
		return 0, false
	}
	return number(m.left()[:width]), true
}

func (m *model) take(width int) (uint32, bool) {
	v, ok := m.peek(width)
	if ok {
		m.used += width
	}
	return v, ok
}

func (m *model) align() (uint32, int) {
	width := (8 - m.used%8) % 8
	v, _ := m.take(width)
	return v, width
}

// fed returns a reader that was fed those chunks.
func fed(t *testing.T, chunks ...[]byte) *bitreader.Reader {
	t.Helper()
	r := bitreader.New()
	feed(t, r, chunks...)
	return r
}

func feed(t *testing.T, r *bitreader.Reader, chunks ...[]byte) {
	t.Helper()
	if !r.Feed(chunks...) {
		t.Fatalf("Feed(%x) is refused", chunks)
	}
}

// skip uses that many bits.
func skip(t *testing.T, r *bitreader.Reader, many int) {
	t.Helper()
	for range many {
		if _, ok := r.Take(1); !ok {
			t.Fatalf("a bit is refused, with %d left", r.Left())
		}
	}
}

func wantTake(t *testing.T, r *bitreader.Reader, width int, want uint32, is bool) {
	t.Helper()
	if v, ok := r.Peek(width); v != want || ok != is {
		t.Errorf("Peek(%d): %x, %v, want %x, %v", width, v, ok, want, is)
	}
	if v, ok := r.Take(width); v != want || ok != is {
		t.Errorf("Take(%d): %x, %v, want %x, %v", width, v, ok, want, is)
	}
}

func wantAlign(t *testing.T, r *bitreader.Reader, want uint32, many int) {
	t.Helper()
	if pad, width := r.Align(); pad != want || width != many {
		t.Errorf("Align: %x, %d, want %x, %d", pad, width, want, many)
	}
}

func wantCounts(t *testing.T, r *bitreader.Reader, left, used int, ended bool) {
	t.Helper()
	if r.Left() != left || r.Used() != used || r.Ended() != ended {
		t.Errorf("left %d, used %d, ended %v, want %d, %d, %v", r.Left(), r.Used(), r.Ended(), left, used, ended)
	}
}

// wantRest takes all bits, and checks that they are these and that no more follow.
func wantRest(t *testing.T, r *bitreader.Reader, digits string) {
	t.Helper()
	var s strings.Builder
	for {
		v, ok := r.Take(1)
		if !ok {
			break
		}
		fmt.Fprint(&s, v)
	}
	if s.String() != digits || r.Left() != 0 {
		t.Errorf("the rest is %s and %d more, want %s", s.String(), r.Left(), digits)
	}
}

// P3.1

func TestNewHasNoInput(t *testing.T) {
	r := bitreader.New()
	if r == nil {
		t.Fatal("New returns nil")
	}
	wantCounts(t, r, 0, 0, false)
	wantTake(t, r, 0, 0, true)
	for width := 1; width <= 33; width++ {
		wantTake(t, r, width, 0, false)
	}
	wantAlign(t, r, 0, 0)
	wantCounts(t, r, 0, 0, false)
}

func TestFeedAppendsTheChunksInOrder(t *testing.T) {
	r := fed(t, []byte{1, 2}, []byte{3}, []byte{4, 5, 6})
	wantCounts(t, r, 48, 0, false)
	feed(t, r, []byte{7})
	wantCounts(t, r, 56, 0, false)
	for want := range uint32(7) {
		wantTake(t, r, 8, want+1, true)
	}
	wantCounts(t, r, 0, 56, false)
}

func TestFeedOfNothing(t *testing.T) {
	for _, chunks := range [][][]byte{nil, {}, {nil}, {{}}, {nil, {}, nil}, {make([]byte, 4)[:0]}} {
		r := bitreader.New()
		feed(t, r, chunks...)
		wantCounts(t, r, 0, 0, false)
		feed(t, r, []byte{0xc5})
		feed(t, r, chunks...)
		wantCounts(t, r, 8, 0, false)
		wantTake(t, r, 3, 6, true)
		feed(t, r, chunks...)
		wantCounts(t, r, 5, 3, false)
		wantRest(t, r, "00101")
	}
}

func TestFeedAmongEmptyChunks(t *testing.T) {
	r := fed(t, nil, []byte{0xa5}, []byte{}, nil, []byte{0xf0, 0x0f}, nil)
	wantCounts(t, r, 24, 0, false)
	wantRest(t, r, "101001011111000000001111")
}

func TestFeedAfterEnd(t *testing.T) {
	for _, before := range [][]byte{nil, {0xa5}, {0xa5, 0xf0, 0x3c}} {
		for used := range 8*len(before) + 1 {
			r := fed(t, before)
			skip(t, r, used)
			r.End()
			for _, chunks := range [][][]byte{nil, {nil}, {{}}, {{1}}, {{1, 2}, {3}}} {
				if r.Feed(chunks...) {
					t.Errorf("Feed(%x) after the end", chunks)
				}
			}
			wantCounts(t, r, 8*len(before)-used, used, true)
			wantRest(t, r, digitsOf(before)[used:])
			if r.Feed([]byte{1}) {
				t.Error("Feed after the end, when all bits are used")
			}
			wantCounts(t, r, 0, 8*len(before), true)
		}
	}
}

func TestEnd(t *testing.T) {
	for _, before := range [][]byte{nil, {}, {0xa5}, {0xa5, 0xf0}} {
		r := fed(t, before)
		if r.Ended() {
			t.Error("ended before End")
		}
		if !r.End() || !r.Ended() {
			t.Error("End, and not ended")
		}
		for range 3 {
			if r.End() || !r.Ended() {
				t.Error("End after End")
			}
		}
		wantCounts(t, r, 8*len(before), 0, true)
		wantRest(t, r, digitsOf(before))
		if r.End() || !r.Ended() {
			t.Error("End after End, when all bits are used")
		}
	}
}

func TestUsedAndLeftCountBits(t *testing.T) {
	d := dice(3)
	b := d.bytes(40)
	r, used := fed(t, b), 0
	for _, width := range []int{0, 1, 7, 8, 9, 31, 32, 0, 32, 32, 5, 16, 32, 24, 32} {
		width = min(width, 8*len(b)-used)
		if _, ok := r.Take(width); !ok {
			t.Fatalf("Take(%d) with %d left", width, r.Left())
		}
		used += width
		wantCounts(t, r, 8*len(b)-used, used, false)
	}
	feed(t, r, b)
	wantCounts(t, r, 16*len(b)-used, used, false)
}

func TestChunksAreNotKept(t *testing.T) {
	first, second := []byte{0xa5, 0xf0}, []byte{0x12, 0x34, 0x56}
	want := digitsOf(first) + digitsOf(second)
	for used := range len(want) + 1 {
		a, b := slices.Clone(first), slices.Clone(second)
		chunks := [][]byte{a, b}
		r := fed(t, chunks...)
		a[0] = 0
		skip(t, r, used)
		clear(a)
		clear(b)
		clear(chunks)
		wantRest(t, r, want[used:])
	}
	// A reader that is empty again must not take over the memory of the chunk that comes then.
	r := fed(t, []byte{1})
	skip(t, r, 8)
	chunk := []byte{0xff, 0xff, 0xff}
	feed(t, r, chunk)
	clear(chunk)
	wantRest(t, r, strings.Repeat("1", 24))
}

func TestChunksAreNotChanged(t *testing.T) {
	whole := []byte{1, 2, 3, 4, 5, 6, 7, 8}
	want := slices.Clone(whole)
	r := bitreader.New()
	feed(t, r, whole[:2], whole[2:3])
	feed(t, r, whole[3:4])
	skip(t, r, 32)
	feed(t, r, whole[:1])
	feed(t, r, []byte{99, 99}, []byte{99})
	r.Align()
	r.Take(32)
	if !bytes.Equal(whole, want) {
		t.Errorf("the memory of the chunks is now %x", whole)
	}
}

func TestTheSameChunkTwice(t *testing.T) {
	b := []byte{0xa5, 0x3c}
	r := fed(t, b, b)
	feed(t, r, b)
	wantRest(t, r, strings.Repeat(digitsOf(b), 3))
}

func TestReadersDoNotTouchEachOther(t *testing.T) {
	b := []byte{0xa5, 0xf0}
	r, other := fed(t, b), fed(t, b)
	skip(t, r, 5)
	r.End()
	feed(t, other, []byte{0xff})
	wantCounts(t, r, 11, 5, true)
	wantCounts(t, other, 24, 0, false)
	wantRest(t, r, "10111110000")
	wantRest(t, other, "101001011111000011111111")
}

func TestNilReader(t *testing.T) {
	var r *bitreader.Reader
	for range 2 {
		if r.Feed() || r.Feed(nil) || r.Feed([]byte{1}, []byte{2}) {
			t.Error("a nil reader is fed")
		}
		for _, width := range append([]int{0, 1, 8, 32}, wild...) {
			wantTake(t, r, width, 0, false)
		}
		wantAlign(t, r, 0, 0)
		if r.End() {
			t.Error("a nil reader ends")
		}
		wantCounts(t, r, 0, 0, false)
	}
}

// A reader that New did not make is without input.
func TestZeroReader(t *testing.T) {
	var r bitreader.Reader
	wantCounts(t, &r, 0, 0, false)
	wantTake(t, &r, 0, 0, true)
	wantTake(t, &r, 1, 0, false)
	wantAlign(t, &r, 0, 0)
	feed(t, &r, []byte{0xa5})
	wantTake(t, &r, 3, 5, true)
	if !r.End() || r.End() {
		t.Error("End")
	}
	wantCounts(t, &r, 5, 3, true)
}

// P3.2

func TestTakeOfTheExample(t *testing.T) {
	r := fed(t, []byte{0xa5, 0xf0})
	wantTake(t, r, 3, 5, true)
	wantTake(t, r, 6, 11, true)
	wantAlign(t, r, 112, 7)
	wantTake(t, r, 1, 0, false)
}

func TestTakeOfEveryWidthAtEveryPosition(t *testing.T) {
	d := dice(7)
	for _, b := range [][]byte{d.bytes(7), d.bytes(7), bytes.Repeat([]byte{255}, 7), make([]byte, 7)} {
		s := digitsOf(b)
		for at := range len(s) + 1 {
			for width := range 34 {
				r := fed(t, b)
				skip(t, r, at)
				m := model{fed: s, used: at}
				v, ok := m.take(width)
				wantTake(t, r, width, v, ok)
				wantCounts(t, r, len(m.left()), m.used, false)
				wantRest(t, r, m.left())
			}
		}
	}
}

func TestPeekUsesNothing(t *testing.T) {
	b := []byte{0x12, 0x34, 0x56, 0x78, 0x9a, 0xbc}
	s := digitsOf(b)
	for at := range 17 {
		r := fed(t, b)
		skip(t, r, at)
		for width := range 33 {
			want, is := number(s[at:min(at+width, len(s))]), at+width <= len(s)
			if !is {
				want = 0
			}
			for range 3 {
				if v, ok := r.Peek(width); v != want || ok != is {
					t.Errorf("Peek(%d) at %d: %x, %v, want %x, %v", width, at, v, ok, want, is)
				}
				wantCounts(t, r, len(s)-at, at, false)
			}
		}
		wantRest(t, r, s[at:])
	}
}

func TestTakeOfOneBitMoreThanIsLeft(t *testing.T) {
	for n := range 5 {
		b := bytes.Repeat([]byte{255}, n)
		for used := range 8*n + 1 {
			for _, ended := range []bool{false, true} {
				r, left := fed(t, b), 8*n-used
				skip(t, r, used)
				if ended {
					r.End()
				}
				wantTake(t, r, left+1, 0, false)
				wantCounts(t, r, left, used, ended)
				wantTake(t, r, left, uint32(1<<left-1), true)
				wantCounts(t, r, 0, 8*n, ended)
				wantTake(t, r, 1, 0, false)
				wantTake(t, r, 0, 0, true)
			}
		}
	}
}

func TestTakeRefusesWidth(t *testing.T) {
	for _, n := range []int{0, 1, 6, 64} {
		b := bytes.Repeat([]byte{255}, n)
		for used := range min(8*n, 10) + 1 {
			r := fed(t, b)
			skip(t, r, used)
			for _, width := range wild {
				wantTake(t, r, width, 0, false)
				wantCounts(t, r, 8*n-used, used, false)
			}
			wantRest(t, r, strings.Repeat("1", 8*n-used))
		}
	}
}

func TestTakeAgainAfterMoreInput(t *testing.T) {
	b := []byte{0x9a, 0xbc, 0xde, 0xf0, 0x12}
	s := digitsOf(b)
	for used := range 9 {
		for width := range 33 {
			if used+width <= 8 {
				continue
			}
			r := fed(t, b[:1])
			skip(t, r, used)
			for many := 1; used+width > 8*many; many++ {
				wantTake(t, r, width, 0, false)
				wantCounts(t, r, 8*many-used, used, false)
				feed(t, r, b[many:many+1])
			}
			wantTake(t, r, width, number(s[used:used+width]), true)
		}
	}
}

func TestTakeStopsAtTheLengthNotTheCapacity(t *testing.T) {
	r := fed(t, []byte{1, 2, 255, 255}[:2])
	wantTake(t, r, 17, 0, false)
	wantTake(t, r, 16, 0x102, true)
	wantTake(t, r, 1, 0, false)
}

// P3.3

func TestAlignAtEveryPosition(t *testing.T) {
	for _, b := range [][]byte{{0xa5, 0xf0, 0x3c}, {255, 255, 255}, {0, 0, 0}, {0x12, 0x34, 0x56}, {0x81, 0x7e, 0x81}} {
		s := digitsOf(b)
		for used := range len(s) + 1 {
			r := fed(t, b)
			skip(t, r, used)
			m := model{fed: s, used: used}
			pad, width := m.align()
			wantAlign(t, r, pad, width)
			wantCounts(t, r, len(m.left()), m.used, false)
			wantAlign(t, r, 0, 0)
			wantCounts(t, r, len(m.left()), m.used, false)
			wantRest(t, r, m.left())
		}
	}
}

func TestAlignOfEveryByte(t *testing.T) {
	for c := range 256 {
		for used := 1; used < 8; used++ {
			r := fed(t, []byte{byte(c)})
			skip(t, r, used)
			wantAlign(t, r, uint32(c%(1<<(8-used))), 8-used)
			wantCounts(t, r, 0, 8, false)
		}
	}
}

func TestAlignAfterAWideTake(t *testing.T) {
	for width := range 33 {
		r := fed(t, []byte{255, 255}, []byte{255}, []byte{255, 255})
		wantTake(t, r, width, uint32(1<<width-1), true)
		many := (8 - width%8) % 8
		wantAlign(t, r, uint32(1<<many-1), many)
		wantCounts(t, r, 40-width-many, width+many, false)
	}
}

func TestAlignBetweenChunks(t *testing.T) {
	r := fed(t, []byte{0xa5})
	wantTake(t, r, 3, 5, true)
	feed(t, r, []byte{0xf0})
	wantAlign(t, r, 5, 5)
	wantAlign(t, r, 0, 0)
	wantTake(t, r, 4, 15, true)
	r.End()
	wantAlign(t, r, 0, 4)
	wantCounts(t, r, 0, 16, true)
	wantAlign(t, r, 0, 0)
}

func TestAlignIsNotMovedByPeekOrAWrongTake(t *testing.T) {
	r := fed(t, []byte{0xff, 0x01})
	r.Peek(3)
	wantAlign(t, r, 0, 0)
	wantTake(t, r, 17, 0, false)
	wantTake(t, r, -3, 0, false)
	wantAlign(t, r, 0, 0)
	wantTake(t, r, 0, 0, true)
	wantAlign(t, r, 0, 0)
	wantCounts(t, r, 16, 0, false)
	wantTake(t, r, 15, 0x7f80, true)
	wantTake(t, r, 2, 0, false)
	wantAlign(t, r, 1, 1)
}

// P3.4

// cut divides a byte string after those bytes whose bit is set in the pattern.
func cut(b []byte, pattern int) [][]byte {
	var chunks [][]byte
	start := 0
	for i := range b {
		if pattern>>i&1 == 1 {
			chunks = append(chunks, b[start:i+1])
			start = i + 1
		}
	}
	return append(chunks, b[start:])
}

func TestEveryDivisionIntoChunksGivesTheSameBits(t *testing.T) {
	d := dice(11)
	b := d.bytes(9)
	widths := []int{1, 2, 3, 32, 0, 13, 21}
	for pattern := range 1 << len(b) {
		chunks := cut(b, pattern)
		atOnce, oneByOne := fed(t, chunks...), bitreader.New()
		for _, chunk := range chunks {
			feed(t, oneByOne, chunk)
		}
		m := model{fed: digitsOf(b)}
		for _, width := range widths {
			v, ok := m.take(width)
			wantTake(t, atOnce, width, v, ok)
			wantTake(t, oneByOne, width, v, ok)
		}
		wantCounts(t, atOnce, 0, 72, false)
		wantCounts(t, oneByOne, 0, 72, false)
	}
}

func TestTakeBetweenChunksGivesTheSameBits(t *testing.T) {
	d := dice(12)
	b := d.bytes(8)
	for pattern := range 1 << len(b) {
		for _, width := range []int{1, 3, 7, 8, 11, 32} {
			r, m := bitreader.New(), model{}
			for _, chunk := range cut(b, pattern) {
				feed(t, r, chunk)
				m.fed += digitsOf(chunk)
				for len(m.left()) >= width {
					v, ok := m.take(width)
					wantTake(t, r, width, v, ok)
				}
				wantTake(t, r, width, 0, false)
			}
			wantRest(t, r, m.left())
		}
	}
}

func TestManyCallsFollowTheModel(t *testing.T) {
	for seed := range 100 {
		d := dice(seed)
		r, m := bitreader.New(), model{}
		for range 400 {
			call(t, &d, r, &m)
			wantCounts(t, r, len(m.left()), m.used, m.ended)
			if t.Failed() {
				t.Fatalf("seed %d", seed)
			}
		}
		wantRest(t, r, m.left())
	}
}

// call makes one call that the dice choose, on a reader and on its model.
func call(t *testing.T, d *dice, r *bitreader.Reader, m *model) {
	t.Helper()
	switch kind := d.roll(300); {
	case kind == 0:
		if r.End() == m.ended {
			t.Errorf("End: %v", m.ended)
		}
		m.ended = true
	case kind < 60:
		chunks := [][]byte{d.bytes(d.roll(5)), d.bytes(d.roll(3)), nil}[:d.roll(4)]
		if r.Feed(chunks...) == m.ended {
			t.Errorf("Feed: %v", m.ended)
		}
		if !m.ended {
			m.fed += digitsOf(bytes.Join(chunks, nil))
		}
		for _, chunk := range chunks {
			clear(chunk)
		}
	case kind < 90:
		pad, width := m.align()
		wantAlign(t, r, pad, width)
	case kind < 110:
		wantTake(t, r, wild[d.roll(len(wild))], 0, false)
	default:
		width := d.roll(34)
		v, ok := m.take(width)
		wantTake(t, r, width, v, ok)
	}
}

func TestALongInputInLargeAndSmallChunks(t *testing.T) {
	d := dice(21)
	b := d.bytes(200000)
	r := fed(t, b[:100000])
	for _, c := range b[100000:] {
		feed(t, r, []byte{c})
	}
	r.End()
	wantTake(t, r, 3, uint32(b[0]>>5), true)
	for at := range len(b) - 1 {
		want := uint32(b[at])<<3&255 | uint32(b[at+1])>>5
		if v, ok := r.Take(8); v != want || !ok {
			t.Fatalf("eight bits of byte %d on: %x, %v, want %x", at, v, ok, want)
		}
	}
	wantAlign(t, r, uint32(b[len(b)-1]&31), 5)
	wantCounts(t, r, 0, 8*len(b), true)
}
