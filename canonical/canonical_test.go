package canonical_test

import (
	"math"
	"slices"
	"strconv"
	"strings"
	"testing"

	"winepress/api"
	"winepress/canonical"
)

const last = api.Symbols - 1

// places holds symbols at which lengths are looked at: the ends, those next to them, the bytes' ends and others. The last one is Eob.
var places = []int{0, 1, 2, 3, 100, 127, 128, 254, 255, 256, last}

// tooGreat holds lengths that no code has.
var tooGreat = []uint8{16, 17, 18, 30, 31, 32, 33, 63, 64, 79, 80, 127, 128, 129, 240, 241, 254, 255}

// wild holds numbers that are not the length of a code; the low bits of some would be.
var wild = []int{
	0, -1, -2, -3, -14, -15, -16, -17, -255, -256, -1<<31 - 1, -1 << 31, -1<<32 + 1, -1<<32 + 15, -1<<62 + 2, math.MinInt, math.MinInt + 1, math.MinInt + 15,
	16, 17, 18, 19, 30, 31, 32, 33, 63, 64, 65, 127, 128, 255, 256, 257, 258, 259, 271, 272, 1<<16 + 1, 1<<31 - 1, 1 << 31, 1<<32 - 1, 1 << 32, 1<<32 + 1, 1<<32 + 15, 1 << 40, 1<<62 + 3, math.MaxInt - 1, math.MaxInt,
}

// dice gives numbers that look thrown, the same ones in every run.
type dice uint64

func (d *dice) roll(sides int) int {
	*d = *d*6364136223846793005 + 1442695040888963407
	return int(uint64(*d) >> 33 % uint64(sides))
}

// lengths returns lengths up to most for all symbols.
func (d *dice) lengths(most int) api.Lengths {
	var l api.Lengths
	for s := range l {
		l[s] = uint8(d.roll(most + 1))
	}
	return l
}

// symbol returns a symbol whose length is between two.
func (d *dice) symbol(l api.Lengths, from, to uint8) (symbol int, ok bool) {
	var some []int
	for s, length := range l {
		if length >= from && length <= to {
			some = append(some, s)
		}
	}
	if some == nil {
		return 0, false
	}
	return some[d.roll(len(some))], true
}

// complete returns lengths of at least two symbols that leave no room for another: one of those with a length is divided into two again and again.
func (d *dice) complete(symbols int) api.Lengths {
	l := lengthsAt(map[int]uint8{d.roll(last): 1, last: 1})
	for range symbols - 2 {
		parent, ok := d.symbol(l, 1, api.MaxCode-1)
		if !ok {
			return l
		}
		child, _ := d.symbol(l, 0, 0)
		l[parent]++
		l[child] = l[parent]
	}
	return l
}

// fitting returns valid lengths: such as leave no room, from some of which symbols are taken or whose lengths are increased.
func (d *dice) fitting() api.Lengths {
	l := d.complete(2 + d.roll(last))
	for range d.roll(6) {
		s := d.roll(api.Symbols)
		switch d.roll(2) {
		case 0:
			l[s] = 0
		case 1:
			if l[s] > 0 {
				l[s] += uint8(d.roll(api.MaxCode + 1 - int(l[s])))
			}
		}
	}
	return l
}

// lengthsAt returns these lengths.
func lengthsAt(lengths map[int]uint8) api.Lengths {
	var l api.Lengths
	for s, n := range lengths {
		l[s] = n
	}
	return l
}

// evenly returns one length for as many symbols, the last ones.
func evenly(length uint8, many int) api.Lengths {
	var l api.Lengths
	for s := range many {
		l[last-s] = length
	}
	return l
}

// all returns one length for all symbols.
func all(length uint8) api.Lengths { return evenly(length, api.Symbols) }

// steps returns the lengths 1, 2, 3 and on to MaxCode of as many symbols from a first one on, rising or falling.
func steps(first int, falling bool) api.Lengths {
	var l api.Lengths
	for i := range api.MaxCode {
		l[first+i] = uint8(i + 1)
		if falling {
			l[first+i] = uint8(api.MaxCode - i)
		}
	}
	return l
}

// valid returns lengths that are valid, chosen ones and thrown ones.
func valid() []api.Lengths {
	d := dice(1)
	l := []api.Lengths{
		{}, {1}, {15}, {0: 14}, {last: 1}, {last: 15}, {0: 1, last: 1}, {3, 3, 2, 1}, {1, 2, 3, 3}, {2, 4, 15}, {15, 4, 2}, {0: 15, 100: 1, last: 15}, {0: 2, 1: 1, 256: 2},
		evenly(8, 256), evenly(8, 255), evenly(7, 128), evenly(2, 3), all(9), all(14), all(15),
		steps(0, false), steps(0, true), steps(100, false), steps(100, true), steps(api.Symbols-api.MaxCode, false), steps(api.Symbols-api.MaxCode, true),
	}
	for symbols := 2; symbols <= api.Symbols; symbols += 1 + d.roll(3) {
		l = append(l, d.complete(symbols), d.fitting())
	}
	return l
}

// invalid returns lengths that are not valid: such as have a sum greater than 1, by little or much, and such as have lengths that are too great.
func invalid() []api.Lengths {
	d := dice(2)
	l := []api.Lengths{
		{1, 1, 1}, {1, 1, 15}, {0: 1, 100: 1, last: 15}, {3, 3, 2, 1, 15}, {2, 2, 2, 2, 2}, {0: 1, 1: 2, 2: 2, last: 14}, {0: 16, last: 16}, {0: 255, last: 16},
		evenly(8, 257), all(1), all(2), all(8), all(16), all(17), all(255),
	}
	for length := uint8(1); length <= 7; length++ {
		l = append(l, evenly(length, 1<<length+1))
	}
	for _, base := range []api.Lengths{{}, {1}, {0: 1, last: 1}, {3, 3, 2, 1}, all(15), d.complete(90), d.fitting()} {
		for _, s := range places {
			for _, length := range tooGreat {
				other := base
				other[s] = length
				l = append(l, other)
			}
		}
	}
	for range 50 {
		more := d.complete(2 + d.roll(200))
		s, _ := d.symbol(more, 0, 0)
		more[s] = uint8(1 + d.roll(15))
		l = append(l, more, d.lengths(15), d.lengths(255))
	}
	return l
}

// fits tells by the definition whether lengths are valid. All these fractions and their sums are exact.
func fits(l api.Lengths) bool {
	sum := 0.0
	for _, length := range l {
		if length > 15 {
			return false
		}
		if length > 0 {
			sum += math.Pow(2, -float64(length))
		}
	}
	return sum <= 1
}

// ordered returns the symbols of valid lengths in order, length by length.
func ordered(l api.Lengths) []int {
	var symbols []int
	for length := uint8(1); length <= 15; length++ {
		for s := range api.Symbols {
			if l[s] == length {
				symbols = append(symbols, s)
			}
		}
	}
	return symbols
}

// following returns the string of digits 0 and 1 that is one more.
func following(digits string) string {
	zero := strings.LastIndexByte(digits, '0')
	if zero < 0 {
		return "1" + strings.Repeat("0", len(digits))
	}
	return digits[:zero] + "1" + strings.Repeat("0", len(digits)-zero-1)
}

// spelt returns the codes of valid lengths by the definition, written with the digits 0 and 1.
func spelt(l api.Lengths) map[int]string {
	codes := map[int]string{}
	code := ""
	for i, s := range ordered(l) {
		if i > 0 {
			code = following(code)
		}
		code += strings.Repeat("0", int(l[s])-len(code))
		codes[s] = code
	}
	return codes
}

// number returns what digits stand for.
func number(t *testing.T, digits string) uint32 {
	t.Helper()
	n, err := strconv.ParseUint(digits, 2, 15)
	if err != nil {
		t.Fatal(err)
	}
	return uint32(n)
}

// digits writes a code with as many digits as its length.
func digits(code uint32, length uint8) string {
	s := strconv.FormatUint(uint64(code), 2)
	return strings.Repeat("0", max(0, int(length)-len(s))) + s
}

// shown holds the numbers other than 0, for messages.
func shown[N int | uint8 | uint32](l []N) map[int]N {
	m := map[int]N{}
	for s, n := range l {
		if n != 0 {
			m[s] = n
		}
	}
	return m
}

func wantValid(t *testing.T, l api.Lengths, want bool) {
	t.Helper()
	if canonical.Valid(l) != want {
		t.Errorf("Valid(%v): %v", shown(l[:]), !want)
	}
}

func wantOrder(t *testing.T, l api.Lengths, want ...int) {
	t.Helper()
	if symbols := canonical.Order(l); !slices.Equal(symbols, want) {
		t.Errorf("Order(%v): %d, want %d", shown(l[:]), symbols, want)
	}
}

func wantCodes(t *testing.T, l api.Lengths, want api.Codes) {
	t.Helper()
	if codes, e := canonical.Codes(l); codes != want || e != api.OK {
		t.Errorf("Codes(%v): %v, %d, want %v", shown(l[:]), shown(codes[:]), e, shown(want[:]))
	}
}

func wantFind(t *testing.T, l api.Lengths, code uint32, length int, want int) {
	t.Helper()
	if s, ok := canonical.Find(l, code, length); s != want || !ok {
		t.Errorf("Find(%v, %d, %d): %d, %v, want %d", shown(l[:]), code, length, s, ok, want)
	}
}

func wantNotFound(t *testing.T, l api.Lengths, code uint32, length int) {
	t.Helper()
	if s, ok := canonical.Find(l, code, length); s != 0 || ok {
		t.Errorf("Find(%v, %d, %d): %d, %v", shown(l[:]), code, length, s, ok)
	}
}

// found returns the symbols of valid lengths by their codes' numbers and lengths.
func found(t *testing.T, l api.Lengths) map[[2]int]int {
	t.Helper()
	symbols := map[[2]int]int{}
	for s, code := range spelt(l) {
		symbols[[2]int{int(number(t, code)), len(code)}] = s
	}
	return symbols
}

// wantFindOf asks Find for the symbol with a code, or for none.
func wantFindOf(t *testing.T, l api.Lengths, symbols map[[2]int]int, code uint32, length int) {
	t.Helper()
	if s, ok := symbols[[2]int{int(code), length}]; ok {
		wantFind(t, l, code, length, s)
	} else {
		wantNotFound(t, l, code, length)
	}
}

func wantFirst(t *testing.T, l api.Lengths, length int, code uint32, many int) {
	t.Helper()
	if c, n, ok := canonical.First(l, length); c != code || n != many || !ok {
		t.Errorf("First(%v, %d): %d, %d, %v, want %d, %d", shown(l[:]), length, c, n, ok, code, many)
	}
}

func wantNoFirst(t *testing.T, l api.Lengths, length int) {
	t.Helper()
	if c, n, ok := canonical.First(l, length); c != 0 || n != 0 || ok {
		t.Errorf("First(%v, %d): %d, %d, %v", shown(l[:]), length, c, n, ok)
	}
}

// wantAll compares all that P9.1 says of valid lengths with their codes, written with digits.
func wantAll(t *testing.T, l api.Lengths, want map[int]string) {
	t.Helper()
	var codes api.Codes
	for s, code := range want {
		codes[s] = number(t, code)
	}
	wantValid(t, l, true)
	wantOrder(t, l, ordered(l)...)
	wantCodes(t, l, codes)
}

// wantNone asks for all that P9.1 and P9.2 say of lengths that are not valid.
func wantNone(t *testing.T, l api.Lengths) {
	t.Helper()
	wantValid(t, l, false)
	wantOrder(t, l)
	if codes, e := canonical.Codes(l); codes != (api.Codes{}) || e != api.ErrArg {
		t.Errorf("Codes(%v): %v, %d", shown(l[:]), shown(codes[:]), e)
	}
	for length := -1; length <= 17; length++ {
		wantNotFound(t, l, 0, length)
		wantNoFirst(t, l, length)
	}
	greatest := int(slices.Max(l[:]))
	wantNoFirst(t, l, greatest)
	wantNotFound(t, l, 0, greatest)
	wantNotFound(t, l, 1, 1)
	wantNotFound(t, l, 1, 15)
	wantNotFound(t, l, 1<<32-1, 32)
}

// P9.1

func TestCodesOfTheExample(t *testing.T) {
	l := api.Lengths{3, 3, 2, 1}
	wantCodes(t, l, api.Codes{6, 7, 2, 0})
	wantOrder(t, l, 3, 2, 0, 1)
	wantAll(t, l, map[int]string{0: "110", 1: "111", 2: "10", 3: "0"})
}

func TestCodesOfOrdinaryLengths(t *testing.T) {
	wantAll(t, api.Lengths{1, 2, 3, 3}, map[int]string{0: "0", 1: "10", 2: "110", 3: "111"})
	wantAll(t, api.Lengths{2, 2, 2, 2}, map[int]string{0: "00", 1: "01", 2: "10", 3: "11"})
	wantAll(t, api.Lengths{2, 1, 0, 3, 3}, map[int]string{1: "0", 0: "10", 3: "110", 4: "111"})
	wantAll(t, api.Lengths{3, 3, 3, 3, 3, 2, 4, 4}, map[int]string{5: "00", 0: "010", 1: "011", 2: "100", 3: "101", 4: "110", 6: "1110", 7: "1111"})
	wantOrder(t, api.Lengths{3, 3, 3, 3, 3, 2, 4, 4}, 5, 0, 1, 2, 3, 4, 6, 7)
}

// The shift is by the difference of the lengths, which can be more than 1.
func TestCodesWhereLengthsAreLeftOut(t *testing.T) {
	wantAll(t, api.Lengths{2, 4, 15}, map[int]string{0: "00", 1: "0100", 2: "010100000000000"})
	wantAll(t, api.Lengths{1, 15}, map[int]string{0: "0", 1: "100000000000000"})
	wantAll(t, api.Lengths{15, 1}, map[int]string{1: "0", 0: "100000000000000"})
	wantAll(t, api.Lengths{5, 5, 7, 7, 10}, map[int]string{0: "00000", 1: "00001", 2: "0001000", 3: "0001001", 4: "0001010000"})
	wantCodes(t, api.Lengths{1, 14, 15, 15}, api.Codes{0, 1 << 13, 1<<14 + 2, 1<<14 + 3})
}

func TestCodesOfNoSymbol(t *testing.T) {
	wantAll(t, api.Lengths{}, nil)
	wantOrder(t, api.Lengths{})
	wantCodes(t, api.Lengths{}, api.Codes{})
}

func TestCodesOfOneSymbol(t *testing.T) {
	for s := range api.Symbols {
		for length := 1; length <= 255; length++ {
			l := lengthsAt(map[int]uint8{s: uint8(length)})
			if length > 15 {
				wantNone(t, l)
				continue
			}
			wantAll(t, l, map[int]string{s: strings.Repeat("0", length)})
			wantOrder(t, l, s)
		}
	}
}

func TestCodesOfAllSymbols(t *testing.T) {
	for length := 1; length <= 255; length++ {
		l := all(uint8(length))
		if length < 9 || length > 15 {
			wantNone(t, l)
			continue
		}
		var want api.Codes
		for s := range want {
			want[s] = uint32(s)
		}
		wantCodes(t, l, want)
		wantAll(t, l, spelt(l))
	}
	d := dice(3)
	for range 10 {
		l := d.complete(api.Symbols)
		wantAll(t, l, spelt(l))
		l = d.lengths(5)
		for s := range l {
			l[s] += 10
		}
		wantAll(t, l, spelt(l))
	}
}

func TestCodesOfSymbolsFarApart(t *testing.T) {
	wantAll(t, api.Lengths{0: 1, last: 1}, map[int]string{0: "0", last: "1"})
	wantAll(t, api.Lengths{0: 2, 128: 1, last: 2}, map[int]string{128: "0", 0: "10", last: "11"})
	wantOrder(t, api.Lengths{0: 2, 128: 1, last: 2}, 128, 0, last)
	wantAll(t, api.Lengths{0: 15, 100: 1, 255: 14, last: 15}, map[int]string{100: "0", 255: "10000000000000", 0: "100000000000010", last: "100000000000011"})
	wantAll(t, api.Lengths{0: 1, 1: 2, api.Eob: 2}, map[int]string{0: "0", 1: "10", api.Eob: "11"})
}

func TestCodesOfRisingAndFallingLengths(t *testing.T) {
	for _, first := range []int{0, 1, 100, api.Symbols - api.MaxCode} {
		rising, falling := map[int]string{}, map[int]string{}
		for i := range api.MaxCode {
			code := strings.Repeat("1", i) + "0"
			rising[first+i], falling[first+api.MaxCode-1-i] = code, code
		}
		wantAll(t, steps(first, false), rising)
		wantAll(t, steps(first, true), falling)
	}
}

func TestCodesOfSumsOfOneAndJustLess(t *testing.T) {
	for length := uint8(1); length <= 8; length++ {
		many := 1 << length
		for _, n := range []int{many - 1, many} {
			l := evenly(length, n)
			codes := map[int]string{}
			for i := range n {
				codes[api.Symbols-n+i] = digits(uint32(i), length)
			}
			wantAll(t, l, codes)
		}
		wantNone(t, evenly(length, many+1))
		full := evenly(length, many)
		full[0] = 15
		wantNone(t, full)
	}
	rest := steps(10, false)
	rest[last] = 15
	wantAll(t, rest, spelt(rest))
	if codes, _ := canonical.Codes(rest); codes[last] != 1<<15-1 {
		t.Errorf("the last code of 15 bits: %d", codes[last])
	}
	rest[0] = 15
	wantNone(t, rest)
}

// Whatever fills the room exactly, one more symbol of any length is too much; any one less, or one of them longer, is not.
func TestCodesAroundASumOfOne(t *testing.T) {
	d := dice(4)
	for range 40 {
		l := d.complete(2 + d.roll(200))
		wantAll(t, l, spelt(l))
		s, _ := d.symbol(l, 0, 0)
		for length := uint8(1); length <= 16; length++ {
			more := l
			more[s] = length
			wantNone(t, more)
		}
		less, longer := l, l
		s, _ = d.symbol(l, 1, 15)
		less[s] = 0
		wantAll(t, less, spelt(less))
		if s, ok := d.symbol(l, 1, 14); ok {
			longer[s]++
			wantAll(t, longer, spelt(longer))
			shorter := l
			if shorter[s]--; shorter[s] > 0 {
				wantNone(t, shorter)
			}
		}
	}
}

// As many symbols of one length as can be, and all others of a greater one if there is room for them.
func TestCodesAfterManyOfOneLength(t *testing.T) {
	for _, length := range []uint8{7, 8, 9, 14} {
		for many := 1; many < min(1<<length, api.Symbols); many++ {
			l := evenly(length, many)
			room := (1<<length - many) << (15 - length)
			for s := range min(room, api.Symbols-many) {
				l[s] = 15
			}
			wantAll(t, l, spelt(l))
			wantFirst(t, l, int(length), 0, many)
			wantFirst(t, l, 15, uint32(many)<<(15-length), min(room, api.Symbols-many))
		}
	}
}

func TestInvalidLengths(t *testing.T) {
	for _, l := range invalid() {
		if fits(l) {
			t.Fatalf("valid: %v", shown(l[:]))
		}
		wantNone(t, l)
	}
}

func TestTooGreatLengths(t *testing.T) {
	for s := range api.Symbols {
		for _, length := range []uint8{16, 255} {
			wantNone(t, lengthsAt(map[int]uint8{s: length}))
			l := api.Lengths{0: 15, 130: 15, last: 15}
			wantValid(t, l, true)
			l[s] = length
			wantNone(t, l)
		}
	}
}

// Every choice of lengths for a few symbols, the others having none.
func TestCodesOfAllLengthsOfFewSymbols(t *testing.T) {
	lengths := []uint8{0, 1, 2, 3, 8, 14, 15, 16, 255}
	for _, few := range [][]int{{0, 1, 256, last}, {3, 128, 255, 256}} {
		for pattern := range 9 * 9 * 9 * 9 {
			var l api.Lengths
			for _, s := range few {
				l[s] = lengths[pattern%9]
				pattern /= 9
			}
			if fits(l) {
				wantAll(t, l, spelt(l))
			} else {
				wantNone(t, l)
			}
		}
	}
}

func TestCodesFollowTheDefinition(t *testing.T) {
	for _, l := range valid() {
		if !fits(l) {
			t.Fatalf("not valid: %v", shown(l[:]))
		}
		wantAll(t, l, spelt(l))
	}
}

func TestSymbolsWithoutACodeHaveZero(t *testing.T) {
	for _, l := range valid() {
		codes, _ := canonical.Codes(l)
		for s, length := range l {
			if length == 0 && codes[s] != 0 {
				t.Errorf("Codes(%v): %d for symbol %d", shown(l[:]), codes[s], s)
			}
		}
	}
}

func TestOrderIsNewMemory(t *testing.T) {
	for _, l := range valid() {
		order := canonical.Order(l)
		order = order[:cap(order)]
		for i := range order {
			order[i] = -1
		}
		wantOrder(t, l, ordered(l)...)
	}
}

// P9.2: Find

func TestFindOfTheExample(t *testing.T) {
	l := api.Lengths{3, 3, 2, 1}
	wantFind(t, l, 6, 3, 0)
	wantFind(t, l, 7, 3, 1)
	wantFind(t, l, 2, 2, 2)
	wantFind(t, l, 0, 1, 3)
	symbols := map[[2]int]int{{6, 3}: 0, {7, 3}: 1, {2, 2}: 2, {0, 1}: 3}
	for code := range uint32(100) {
		for length := -2; length <= 20; length++ {
			wantFindOf(t, l, symbols, code, length)
		}
	}
}

// Every number with as many bits as the length, or one more.
func TestFindOfAllNumbers(t *testing.T) {
	d := dice(5)
	for _, l := range []api.Lengths{{1}, {0: 15, 100: 1, last: 15}, {2, 4, 15}, d.complete(10)} {
		symbols := found(t, l)
		for length := 1; length <= 15; length++ {
			for code := range uint32(2) << length {
				wantFindOf(t, l, symbols, code, length)
			}
		}
	}
	for range 10 {
		l := d.fitting()
		symbols := found(t, l)
		for length := 1; length <= 15; length++ {
			for range 200 {
				wantFindOf(t, l, symbols, uint32(d.roll(2<<length)), length)
			}
		}
	}
}

func TestFindAgreesWithCodes(t *testing.T) {
	for i, l := range valid() {
		codes, _ := canonical.Codes(l)
		for j, s := range canonical.Order(l) {
			if i%4 == 0 || j%16 == 0 {
				wantFind(t, l, codes[s], int(l[s]), s)
			}
		}
	}
}

// A code's number with another length, and a number with the same low bits, is another code or none.
func TestFindOfOtherCodes(t *testing.T) {
	d := dice(6)
	for _, l := range []api.Lengths{{1}, {15}, {last: 8}, {0: 1, last: 1}, {3, 3, 2, 1}, {2, 4, 15}, all(9), all(15), d.fitting(), d.complete(40)} {
		symbols := found(t, l)
		for i, s := range ordered(l) {
			if i%9 > 0 && i < len(symbols)-3 {
				continue
			}
			codes, _ := canonical.Codes(l)
			for _, length := range wild {
				wantNotFound(t, l, codes[s], length)
			}
			for length := 1; length <= 15; length++ {
				wantFindOf(t, l, symbols, codes[s], length)
			}
			for bit := l[s]; bit < 32; bit++ {
				wantNotFound(t, l, codes[s]+1<<bit, int(l[s]))
			}
		}
	}
}

func TestFindBeyondTheLastCodeOfALength(t *testing.T) {
	for i, l := range valid() {
		for length := 1; length <= 15; length++ {
			code, many, ok := canonical.First(l, length)
			if !ok || i%3 > 0 {
				continue
			}
			wantNotFound(t, l, code+uint32(many), length)
			wantNotFound(t, l, code+uint32(many)+1, length)
			wantNotFound(t, l, code-1, length)
			wantNotFound(t, l, 1<<length, length)
			wantNotFound(t, l, 1<<15, length)
			wantNotFound(t, l, 1<<16+code, length)
			wantNotFound(t, l, 1<<32-1, length)
		}
	}
}

func TestFindOfNoSymbol(t *testing.T) {
	for length := -1; length <= 17; length++ {
		for _, code := range []uint32{0, 1, 2, 3, 1<<15 - 1, 1 << 15, 1<<16 - 1, 1 << 16, 1<<31 - 1, 1 << 31, 1<<32 - 1} {
			wantNotFound(t, api.Lengths{}, code, length)
		}
	}
	for _, length := range wild {
		wantNotFound(t, api.Lengths{}, 0, length)
		wantNotFound(t, api.Lengths{1}, 0, length)
	}
}

// The codes are those that the lengths would have if they were valid.
func TestFindInInvalidLengths(t *testing.T) {
	for _, c := range []struct {
		l      api.Lengths
		code   uint32
		length int
	}{
		{api.Lengths{1, 1, 1}, 0, 1}, {api.Lengths{1, 1, 1}, 1, 1}, {api.Lengths{1, 1, 1}, 2, 1}, {api.Lengths{1, 1, 15}, 1, 1}, {api.Lengths{1, 1, 15}, 1 << 15, 15},
		{api.Lengths{16}, 0, 16}, {api.Lengths{1, 16}, 0, 1}, {api.Lengths{1, 16}, 1 << 15, 16}, {api.Lengths{0: 1, last: 255}, 0, 1}, {api.Lengths{255}, 0, 255}, {all(8), 0, 8}, {all(8), 256, 8}, {all(8), 257, 8},
	} {
		wantNotFound(t, c.l, c.code, c.length)
	}
}

// P9.2: First

func TestFirstOfTheExample(t *testing.T) {
	l := api.Lengths{3, 3, 2, 1}
	wantFirst(t, l, 1, 0, 1)
	wantFirst(t, l, 2, 2, 1)
	wantFirst(t, l, 3, 6, 2)
	for length := 4; length <= 15; length++ {
		wantNoFirst(t, l, length)
	}
}

func TestFirstOfOrdinaryLengths(t *testing.T) {
	wantFirst(t, api.Lengths{2, 4, 15}, 2, 0, 1)
	wantFirst(t, api.Lengths{2, 4, 15}, 4, 4, 1)
	wantFirst(t, api.Lengths{2, 4, 15}, 15, 5<<11, 1)
	wantNoFirst(t, api.Lengths{2, 4, 15}, 1)
	wantNoFirst(t, api.Lengths{2, 4, 15}, 3)
	wantNoFirst(t, api.Lengths{2, 4, 15}, 14)
	wantFirst(t, api.Lengths{0: 15, 100: 1, last: 15}, 15, 1<<14, 2)
	wantFirst(t, api.Lengths{0: 1, 1: 2, api.Eob: 2}, 2, 2, 2)
	wantFirst(t, evenly(8, 256), 8, 0, 256)
	wantFirst(t, all(9), 9, 0, 258)
	wantFirst(t, all(15), 15, 0, 258)
}

func TestFirstOfEveryLengthOfOneSymbol(t *testing.T) {
	for _, s := range places {
		for length := 1; length <= 15; length++ {
			l := lengthsAt(map[int]uint8{s: uint8(length)})
			wantFirst(t, l, length, 0, 1)
			for other := -1; other <= 17; other++ {
				if other != length {
					wantNoFirst(t, l, other)
				}
			}
		}
	}
}

func TestFirstOfWildLengths(t *testing.T) {
	for _, l := range valid() {
		for _, length := range wild {
			wantNoFirst(t, l, length)
		}
	}
	for _, l := range []api.Lengths{{16}, {255}, {1, 1, 1}, all(16), all(255)} {
		for _, length := range wild {
			wantNoFirst(t, l, length)
		}
	}
}

func TestFirstFollowsTheDefinition(t *testing.T) {
	for _, l := range valid() {
		least, many := map[int]uint32{}, map[int]int{}
		for _, code := range spelt(l) {
			length, n := len(code), number(t, code)
			if many[length] == 0 || n < least[length] {
				least[length] = n
			}
			many[length]++
		}
		for length := 1; length <= 15; length++ {
			if many[length] > 0 {
				wantFirst(t, l, length, least[length], many[length])
			} else {
				wantNoFirst(t, l, length)
			}
		}
	}
}

// From a length's first code on, Find gives the symbols of this length in the order of Order.
func TestFirstAgreesWithFindAndOrder(t *testing.T) {
	for i, l := range valid() {
		order := canonical.Order(l)
		for length := 1; length <= 15; length++ {
			code, many, ok := canonical.First(l, length)
			if ok != (many > 0) || many > len(order) {
				t.Fatalf("First(%v, %d): %d, %d, %v", shown(l[:]), length, code, many, ok)
			}
			for j, s := range order[:many] {
				if int(l[s]) != length {
					t.Errorf("Order(%v): symbol %d among those of length %d", shown(l[:]), s, length)
				}
				if i%8 == 0 || j == 0 || j == many-1 {
					wantFind(t, l, code+uint32(j), length, s)
				}
			}
			order = order[many:]
		}
		if len(order) > 0 {
			t.Errorf("Order(%v): %d are of no length", shown(l[:]), order)
		}
	}
}

// P9.3

func TestNoCodeIsAPrefixOfAnother(t *testing.T) {
	for _, l := range valid() {
		codes, e := canonical.Codes(l)
		if e != api.OK {
			t.Fatalf("Codes(%v): %d", shown(l[:]), e)
		}
		for a := range l {
			for b := range l {
				if l[a] == 0 || l[b] < l[a] || a == b {
					continue
				}
				if codes[b]>>(l[b]-l[a]) == codes[a] {
					t.Errorf("Codes(%v): %d's code is a prefix of %d's", shown(l[:]), a, b)
				}
			}
		}
	}
}

func TestCodesAreInTheOrderOfTheSymbols(t *testing.T) {
	for _, l := range valid() {
		codes, _ := canonical.Codes(l)
		before := ""
		for _, s := range canonical.Order(l) {
			code := digits(codes[s], l[s])
			if len(code) != int(l[s]) || code <= before {
				t.Errorf("Codes(%v): %s after %s", shown(l[:]), code, before)
			}
			before = code
		}
	}
}

func TestCodesOfOneLengthAreConsecutive(t *testing.T) {
	for _, l := range valid() {
		codes, _ := canonical.Codes(l)
		next := map[uint8]uint32{}
		for s, length := range l {
			if want, ok := next[length]; ok && length > 0 && codes[s] != want {
				t.Errorf("Codes(%v): %d for symbol %d, want %d", shown(l[:]), codes[s], s, want)
			}
			next[length] = codes[s] + 1
		}
	}
}

// Codes that fill the room end with digits 1 alone.
func TestTheLastCodeOfASumOfOneHasOnlyOnes(t *testing.T) {
	d := dice(7)
	for symbols := 2; symbols <= api.Symbols; symbols++ {
		l := d.complete(symbols)
		codes, _ := canonical.Codes(l)
		order := canonical.Order(l)
		if len(order) != symbols {
			t.Fatalf("Order(%v): %d symbols, want %d", shown(l[:]), len(order), symbols)
		}
		s := order[symbols-1]
		if codes[s] != 1<<l[s]-1 {
			t.Errorf("Codes(%v): %d is the last one", shown(l[:]), codes[s])
		}
	}
}

// The whole

func TestArgumentsAreNotChanged(t *testing.T) {
	for _, whole := range []api.Lengths{{}, {3, 3, 2, 1}, {0: 16, last: 255}, {1, 1, 1}, all(15)} {
		l := whole
		canonical.Codes(l)
		canonical.Order(l)
		canonical.Find(l, 6, 3)
		canonical.First(l, 3)
		canonical.Valid(l)
		if l != whole {
			t.Errorf("the lengths are now %v", shown(l[:]))
		}
	}
}

func TestCallsLeaveNoTrace(t *testing.T) {
	l, others := api.Lengths{3, 3, 2, 1}, append(valid()[:60], invalid()[:60]...)
	for _, other := range others {
		codes, _ := canonical.Codes(other)
		clear(codes[:])
		clear(canonical.Order(other))
		canonical.Find(other, 6, 3)
		canonical.First(other, 3)
		wantCodes(t, l, api.Codes{6, 7, 2, 0})
		wantOrder(t, l, 3, 2, 0, 1)
		wantFind(t, l, 7, 3, 1)
		wantFirst(t, l, 3, 6, 2)
	}
}
