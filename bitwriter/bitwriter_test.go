package bitwriter_test

import (
	"bytes"
	"fmt"
	"math"
	"slices"
	"strings"
	"testing"

	"winepress/bitwriter"
)

// wild holds numbers that are neither a width nor a position in a short byte string; some wrap around to small ones when added or multiplied by 8.
var wild = []int{
	math.MinInt, math.MinInt + 1, -1 << 62, -1 << 61, -1<<61 + 1, -1 << 32, -1<<32 + 3, -1 << 31, -256, -33, -32, -8, -2, -1,
	1 << 31, 1 << 32, 1<<32 + 1, 1<<60 + 1, 1 << 61, 1<<61 + 1, 1 << 62, math.MaxInt - 32, math.MaxInt - 1, math.MaxInt,
}

// digits writes a value as a string of that many digits 0 and 1.
func digits(v uint32, width int) string {
	if width == 0 {
		return ""
	}
	return fmt.Sprintf("%0*b", width, v)
}

// number reads what digits wrote.
func number(s string) uint32 {
	var v uint32
	for _, c := range s {
		v = 2*v + uint32(c-'0')
	}
	return v
}

// digitsOf writes the bits of a byte string.
func digitsOf(b []byte) string {
	var s strings.Builder
	for _, c := range b {
		s.WriteString(digits(uint32(c), 8))
	}
	return s.String()
}

// packed returns the bytes of a string of digits.
func packed(s string) []byte {
	s += strings.Repeat("0", (8-len(s)%8)%8)
	var b []byte
	for at := 0; at < len(s); at += 8 {
		b = append(b, byte(number(s[at:at+8])))
	}
	return b
}

// dice gives numbers that look thrown, the same ones in every run.
type dice uint64

func (d *dice) roll(sides int) int {
	*d = *d*6364136223846793005 + 1442695040888963407
	return int(uint64(*d) >> 33 % uint64(sides))
}

// value gives a value of that width.
func (d *dice) value(width int) uint32 {
	return uint32(uint64(d.roll(1<<16)<<16|d.roll(1<<16)) & (1<<width - 1))
}

func (d *dice) bytes(n int) []byte {
	b := make([]byte, n)
	for i := range b {
		b[i] = byte(d.roll(256))
	}
	return b
}

func put(t *testing.T, w *bitwriter.Writer, v uint32, width int) {
	t.Helper()
	if !w.Put(v, width) {
		t.Fatalf("Put(%x, %d) is refused", v, width)
	}
}

// written returns a writer with those bits, put one by one.
func written(t *testing.T, s string) *bitwriter.Writer {
	t.Helper()
	w := bitwriter.New()
	for _, c := range s {
		put(t, w, uint32(c-'0'), 1)
	}
	wantBits(t, w, s)
	return w
}

func wantBits(t *testing.T, w *bitwriter.Writer, s string) {
	t.Helper()
	if w.Len() != len(s) || !bytes.Equal(w.Bytes(), packed(s)) {
		t.Errorf("%d bits: %s, want %d: %s", w.Len(), digitsOf(w.Bytes()), len(s), s)
	}
}

// ends returns values of a width, up to the greatest one.
func ends(width int) []uint32 {
	most := uint32(1<<width - 1)
	return []uint32{0, most, most >> 1, most &^ (most >> 1), most / 3, most / 3 * 2, 0x12345678 & most, min(1, most)}
}

// P2.1

func TestNewHasNoBits(t *testing.T) {
	w := bitwriter.New()
	if w == nil {
		t.Fatal("New returns nil")
	}
	wantBits(t, w, "")
	if n := w.Pad(); n != 0 {
		t.Errorf("Pad of no bits: %d", n)
	}
	wantBits(t, w, "")
}

func TestPutOfTheExample(t *testing.T) {
	w := bitwriter.New()
	put(t, w, 5, 3)
	put(t, w, 1, 2)
	if w.Len() != 5 || !bytes.Equal(w.Bytes(), []byte{0xa8}) {
		t.Errorf("%d bits: %x", w.Len(), w.Bytes())
	}
	if n := w.Pad(); n != 3 || w.Len() != 8 || !bytes.Equal(w.Bytes(), []byte{0xa8}) {
		t.Errorf("Pad: %d, then %d bits: %x", n, w.Len(), w.Bytes())
	}
}

func TestPutAppendsEveryWidthAtEveryPosition(t *testing.T) {
	for before := range 17 {
		for width := range 33 {
			for _, v := range ends(width) {
				s := strings.Repeat("1", before)
				w := written(t, s)
				put(t, w, v, width)
				wantBits(t, w, s+digits(v, width))
			}
		}
	}
}

func TestPutOfAllNarrowValues(t *testing.T) {
	for width := range 10 {
		w, s := bitwriter.New(), ""
		for v := range uint32(1 << width) {
			put(t, w, v, width)
			s += digits(v, width)
		}
		wantBits(t, w, s)
	}
}

func TestPutRefusesAValueThatDoesNotFit(t *testing.T) {
	for _, before := range []string{"", "1", "1011001", "10110010", "101100101"} {
		w := written(t, before)
		for width := range 32 {
			for _, v := range []uint32{1 << width, 1<<width + 1, 1 << 31, math.MaxUint32, math.MaxUint32 << width} {
				if w.Put(v, width) {
					t.Errorf("Put(%x, %d)", v, width)
				}
				wantBits(t, w, before)
			}
		}
		put(t, w, math.MaxUint32, 32)
		wantBits(t, w, before+strings.Repeat("1", 32))
	}
}

func TestPutRefusesWidth(t *testing.T) {
	for _, before := range []string{"", "1", "10110010"} {
		w := written(t, before)
		for _, width := range append([]int{33, 34, 40, 63, 64, 65, 128, 256, 256 + 8}, wild...) {
			for _, v := range []uint32{0, 1, 1 << 31, math.MaxUint32} {
				if w.Put(v, width) {
					t.Errorf("Put(%x, %d)", v, width)
				}
				wantBits(t, w, before)
			}
		}
	}
}

func TestPutOfNoBits(t *testing.T) {
	for many := range 10 {
		s := strings.Repeat("1", many)
		w := written(t, s)
		put(t, w, 0, 0)
		wantBits(t, w, s)
		if w.Put(1, 0) || w.Put(math.MaxUint32, 0) {
			t.Error("no bits take a number above 0")
		}
		wantBits(t, w, s)
	}
}

func TestPad(t *testing.T) {
	for many := range 41 {
		for _, digit := range []string{"0", "1"} {
			s := strings.Repeat(digit, many)
			w := written(t, s)
			want := (8 - many%8) % 8
			if n := w.Pad(); n != want {
				t.Errorf("Pad of %d bits: %d, want %d", many, n, want)
			}
			s += strings.Repeat("0", want)
			wantBits(t, w, s)
			if n := w.Pad(); n != 0 {
				t.Errorf("Pad at a byte boundary: %d", n)
			}
			wantBits(t, w, s)
			put(t, w, 3, 2)
			wantBits(t, w, s+"11")
		}
	}
}

func TestBytesReturnsNewMemory(t *testing.T) {
	for many := range 20 {
		s := strings.Repeat("1", many)
		w := written(t, s)
		first, second := w.Bytes(), w.Bytes()
		clear(first)
		_ = append(first, 99)
		clear(first[:cap(first)])
		if !bytes.Equal(second, packed(s)) {
			t.Errorf("%d bits: the results share memory: %x", many, second)
		}
		wantBits(t, w, s)
		put(t, w, 0x155, 9)
		w.Pad()
		if !bytes.Equal(second, packed(s)) {
			t.Errorf("%d bits: a later Put shows in an earlier result: %x", many, second)
		}
		_ = append(second, 99)
		wantBits(t, w, s+digits(0x155, 9)+strings.Repeat("0", w.Len()-many-9))
	}
}

func TestWritersDoNotTouchEachOther(t *testing.T) {
	w, other := written(t, "101"), written(t, "0110011")
	put(t, w, 31, 5)
	other.Pad()
	put(t, other, 5, 3)
	wantBits(t, w, "10111111")
	wantBits(t, other, "01100110101")
}

func TestNilWriter(t *testing.T) {
	var w *bitwriter.Writer
	for _, width := range append([]int{0, 1, 8, 32, 33}, wild...) {
		for _, v := range []uint32{0, 1, math.MaxUint32} {
			if w.Put(v, width) {
				t.Errorf("Put(%x, %d)", v, width)
			}
		}
	}
	if n := w.Pad(); n != 0 || w.Len() != 0 || len(w.Bytes()) != 0 {
		t.Errorf("Pad %d, Len %d, Bytes %x", n, w.Len(), w.Bytes())
	}
}

// A writer that New did not make has no bits.
func TestZeroWriter(t *testing.T) {
	var w bitwriter.Writer
	wantBits(t, &w, "")
	if n := w.Pad(); n != 0 || w.Put(0, -1) || w.Put(2, 1) {
		t.Errorf("Pad %d, or a wrong Put", n)
	}
	put(t, &w, 5, 3)
	wantBits(t, &w, "101")
}

func TestManyCallsFollowTheModel(t *testing.T) {
	for seed := range 60 {
		d := dice(seed)
		w, s := bitwriter.New(), ""
		for range 200 {
			switch d.roll(8) {
			case 0:
				lacking := (8 - len(s)%8) % 8
				if n := w.Pad(); n != lacking {
					t.Errorf("Pad of %d bits: %d", len(s), n)
				}
				s += strings.Repeat("0", lacking)
			case 1:
				width := d.roll(32)
				if w.Put(1<<width|d.value(width), width) || w.Put(d.value(32), 33+d.roll(100)) || w.Put(0, -1-d.roll(100)) {
					t.Errorf("a wrong Put, width %d", width)
				}
			default:
				width := d.roll(33)
				v := d.value(width)
				put(t, w, v, width)
				s += digits(v, width)
			}
			if w.Len() != len(s) {
				t.Fatalf("seed %d: Len %d, want %d", seed, w.Len(), len(s))
			}
		}
		wantBits(t, w, s)
	}
}

// P2.2

func TestGetOfTheExample(t *testing.T) {
	b := []byte{0xa8}
	for _, c := range []struct {
		at, width int
		v         uint32
		ok        bool
	}{{0, 3, 5, true}, {3, 2, 1, true}, {7, 2, 0, false}} {
		if v, ok := bitwriter.Get(b, c.at, c.width); v != c.v || ok != c.ok {
			t.Errorf("Get(%x, %d, %d): %d, %v", b, c.at, c.width, v, ok)
		}
	}
}

func TestGetAtEveryPosition(t *testing.T) {
	d := dice(7)
	for n := range 8 {
		for _, b := range [][]byte{d.bytes(n), bytes.Repeat([]byte{255}, n), make([]byte, n)} {
			s := digitsOf(b)
			for at := range len(s) + 10 {
				for width := range 40 {
					wantGet(t, b, s, at, width)
				}
			}
			if digitsOf(b) != s {
				t.Errorf("the argument is now %s, was %s", digitsOf(b), s)
			}
		}
	}
}

// wantGet checks one Get against the digits of its byte string.
func wantGet(t *testing.T, b []byte, s string, at, width int) {
	t.Helper()
	ok := width <= 32 && at+width <= len(s)
	var want uint32
	if ok {
		want = number(s[at : at+width])
	}
	if v, got := bitwriter.Get(b, at, width); v != want || got != ok {
		t.Errorf("Get(%x, %d, %d): %x, %v, want %x, %v", b, at, width, v, got, want, ok)
	}
}

func TestGetAtTheEnd(t *testing.T) {
	for n := range 10 {
		b := bytes.Repeat([]byte{255}, n)
		many := 8 * n
		if v, ok := bitwriter.Get(b, many, 0); v != 0 || !ok {
			t.Errorf("no bits after the last of %d: %d, %v", many, v, ok)
		}
		for left := range min(many, 32) + 1 {
			if v, ok := bitwriter.Get(b, many-left, left); v != uint32(1<<left-1) || !ok {
				t.Errorf("the last %d of %d bits: %x, %v", left, many, v, ok)
			}
			if v, ok := bitwriter.Get(b, many-left, left+1); v != 0 || ok {
				t.Errorf("one more than the last %d of %d bits: %x, %v", left, many, v, ok)
			}
		}
		for width := range 34 {
			if v, ok := bitwriter.Get(b, many+1, width); v != 0 || ok {
				t.Errorf("%d bits from behind the end: %x, %v", width, v, ok)
			}
		}
	}
}

func TestGetRefusesWildNumbers(t *testing.T) {
	for _, b := range [][]byte{nil, {}, {255}, bytes.Repeat([]byte{255}, 100)} {
		for _, n := range append([]int{-33, -32, -8, 801}, wild...) {
			for _, m := range append([]int{0, 1, 8, 32}, wild...) {
				if v, ok := bitwriter.Get(b, n, m); v != 0 || ok {
					t.Errorf("Get of %d bytes, %d, %d: %x, %v", len(b), n, m, v, ok)
				}
			}
		}
		for _, width := range append([]int{33, 34, 63, 64, 65, 256, 256 + 8}, wild...) {
			for _, at := range []int{0, 1, 8} {
				if v, ok := bitwriter.Get(b, at, width); v != 0 || ok {
					t.Errorf("Get of %d bytes, %d, %d: %x, %v", len(b), at, width, v, ok)
				}
			}
		}
	}
}

func TestGetOfAnEmptyByteString(t *testing.T) {
	for _, b := range [][]byte{nil, {}, make([]byte, 4)[:0]} {
		if v, ok := bitwriter.Get(b, 0, 0); v != 0 || !ok {
			t.Errorf("no bits of nothing: %d, %v", v, ok)
		}
		if v, ok := bitwriter.Get(b, 0, 1); v != 0 || ok {
			t.Errorf("one bit of nothing: %d, %v", v, ok)
		}
		if v, ok := bitwriter.Get(b, 1, 0); v != 0 || ok {
			t.Errorf("no bits behind nothing: %d, %v", v, ok)
		}
	}
}

func TestGetStopsAtTheLengthNotTheCapacity(t *testing.T) {
	b := []byte{1, 2, 255, 255}[:2]
	if v, ok := bitwriter.Get(b, 9, 8); v != 0 || ok {
		t.Errorf("bits of the spare capacity: %x, %v", v, ok)
	}
	if v, ok := bitwriter.Get(b, 9, 7); v != 2 || !ok {
		t.Errorf("the last bits: %x, %v", v, ok)
	}
}

func TestOf(t *testing.T) {
	for c := range 256 {
		l := bitwriter.Of(byte(c))
		if len(l) != 8 {
			t.Fatalf("Of(%x): %v", c, l)
		}
		for i, bit := range l {
			if bit != c>>(7-i)%2 {
				t.Errorf("Of(%x): %v", c, l)
			}
		}
	}
	want := []int{1, 0, 1, 0, 1, 0, 0, 0, 0, 0, 0, 0, 0, 0, 1, 0, 1, 1, 1, 1, 1, 1, 1, 1}
	if l := bitwriter.Of(0xa8, 2, 255); !slices.Equal(l, want) {
		t.Errorf("Of three bytes: %v", l)
	}
}

func TestOfNothing(t *testing.T) {
	if l := bitwriter.Of(); len(l) != 0 {
		t.Errorf("Of no bytes: %v", l)
	}
	for _, b := range [][]byte{nil, {}, make([]byte, 4)[:0]} {
		if l := bitwriter.Of(b...); len(l) != 0 {
			t.Errorf("Of no bytes: %v", l)
		}
	}
}

func TestOfReturnsNewMemory(t *testing.T) {
	b := []byte{1, 128, 77, 88}
	first, second := bitwriter.Of(b[:2]...), bitwriter.Of(b[:2]...)
	want := slices.Clone(second)
	for i := range first {
		first[i] = 9
	}
	_ = append(first, 9)
	b[0] = 255
	if !slices.Equal(second, want) || !slices.Equal(b[1:], []byte{128, 77, 88}) {
		t.Errorf("memory is shared: %v, %v", second, b)
	}
}

// P2.3

func TestGetReturnsWhatPutWrote(t *testing.T) {
	for seed := range 60 {
		d := dice(1000 + seed)
		w := bitwriter.New()
		type piece struct {
			at, width int
			v         uint32
		}
		var pieces []piece
		for range 150 {
			if d.roll(10) == 0 {
				w.Pad()
			}
			width := d.roll(33)
			p := piece{w.Len(), width, d.value(width)}
			put(t, w, p.v, width)
			pieces = append(pieces, p)
		}
		b := w.Bytes()
		for _, p := range pieces {
			if v, ok := bitwriter.Get(b, p.at, p.width); v != p.v || !ok {
				t.Errorf("seed %d: Get of %d bits at %d: %x, %v, want %x", seed, p.width, p.at, v, ok, p.v)
			}
		}
	}
}

func TestGetReturnsEveryWidthAtEveryPosition(t *testing.T) {
	for before := range 17 {
		for width := range 33 {
			for _, v := range ends(width) {
				w := written(t, strings.Repeat("1", before))
				put(t, w, v, width)
				put(t, w, 1<<20-1, 20)
				if got, ok := bitwriter.Get(w.Bytes(), before, width); got != v || !ok {
					t.Errorf("Get of %d bits at %d: %x, %v, want %x", width, before, got, ok, v)
				}
			}
		}
	}
}

func TestPutInTwoParts(t *testing.T) {
	for width := range 33 {
		for _, v := range ends(width) {
			for low := range width + 1 {
				whole, parts := written(t, "101"), written(t, "101")
				put(t, whole, v, width)
				put(t, parts, uint32(uint64(v)>>low), width-low)
				put(t, parts, uint32(uint64(v)&(1<<low-1)), low)
				if whole.Len() != parts.Len() || !bytes.Equal(whole.Bytes(), parts.Bytes()) {
					t.Errorf("%x in %d bits, the last %d apart: %x, want %x", v, width, low, parts.Bytes(), whole.Bytes())
				}
			}
		}
	}
}

func TestOfGivesTheBitsThatPutWrote(t *testing.T) {
	d := dice(5)
	b := d.bytes(200)
	l := bitwriter.Of(b...)
	w := bitwriter.New()
	for _, bit := range l {
		put(t, w, uint32(bit), 1)
	}
	if w.Len() != len(l) || !bytes.Equal(w.Bytes(), b) {
		t.Errorf("%x, want %x", w.Bytes(), b)
	}
	for at, bit := range l {
		if v, ok := bitwriter.Get(b, at, 1); int(v) != bit || !ok {
			t.Errorf("bit %d: %d, %v, want %d", at, v, ok, bit)
		}
	}
}
