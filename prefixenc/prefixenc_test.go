package prefixenc_test

import (
	"bytes"
	"fmt"
	"math"
	"slices"
	"strings"
	"testing"

	"winepress/api"
	"winepress/bitwriter"
	"winepress/prefixenc"
)

const last = api.Symbols - 1

// places holds symbols at which lengths are looked at: the ends, those next to them, the bytes' ends and others. The last one is Eob.
var places = []int{0, 1, 2, 3, 100, 127, 128, 254, 255, 256, last}

// tooGreat holds lengths that no code has; the low four bits of some are those of a length.
var tooGreat = []uint8{16, 17, 18, 30, 31, 32, 33, 63, 64, 79, 80, 127, 128, 129, 240, 241, 254, 255}

// notSymbols holds numbers that are no symbols; the low bits of some are.
var notSymbols = []int{
	-1, -2, -3, -127, -128, -255, -256, -257, -258, -259, -1 << 16, -1<<31 - 1, -1 << 31, -1<<31 + 3, -1 << 32, -1<<32 + 3, -1<<62 + 2, math.MinInt, math.MinInt + 1, math.MinInt + 3,
	258, 259, 260, 261, 511, 512, 515, 1 << 16, 1<<16 + 3, 1<<31 - 1, 1 << 31, 1<<31 + 3, 1<<32 - 1, 1 << 32, 1<<32 + 3, 1 << 40, 1<<62 + 3, math.MaxInt - 1, math.MaxInt,
}

// negative holds numbers below 0; the low bits of some are a number of bits.
var negative = []int{-1, -2, -7, -8, -9, -16, -64, -255, -256, -1 << 16, -1<<31 - 1, -1 << 31, -1<<31 + 8, -1 << 32, -1<<32 + 8, -1<<62 + 8, math.MinInt, math.MinInt + 1, math.MinInt + 8}

// beyond holds what more than all bits are asked for.
var beyond = []int{1, 2, 7, 8, 9, 15, 16, 255, 256, 1 << 16, 1<<31 - 1, 1 << 31, 1 << 32, 1<<32 + 8, 1 << 40, 1 << 61, 1 << 62}

// dice gives numbers that look thrown, the same ones in every run.
type dice uint64

func (d *dice) roll(sides int) int {
	*d = *d*6364136223846793005 + 1442695040888963407
	return int(uint64(*d) >> 33 % uint64(sides))
}

// lengths returns lengths up to most for all symbols.
func (d *dice) lengths(most int) api.Lengths {
	var l api.Lengths
	for s := range l {
		l[s] = uint8(d.roll(most + 1))
	}
	return l
}

// digits returns that many digits 0 and 1.
func (d *dice) digits(many int) string {
	b := make([]byte, many)
	for i := range b {
		b[i] = byte('0' + d.roll(2))
	}
	return string(b)
}

// symbol returns a symbol whose length is between two.
func (d *dice) symbol(l api.Lengths, from, to uint8) (symbol int, ok bool) {
	var some []int
	for s, length := range l {
		if length >= from && length <= to {
			some = append(some, s)
		}
	}
	if some == nil {
		return 0, false
	}
	return some[d.roll(len(some))], true
}

// symbols returns that many symbols that have a code, none if there are none.
func (d *dice) symbols(l api.Lengths, many int) []int {
	some := coded(l)
	if some == nil {
		return nil
	}
	symbols := make([]int, many)
	for i := range symbols {
		symbols[i] = some[d.roll(len(some))]
	}
	return symbols
}

// complete returns lengths of at least two symbols that leave no code unused: one of those with a length is divided into two again and again.
func (d *dice) complete(symbols int) api.Lengths {
	l := lengthsAt(map[int]uint8{d.roll(last): 1, last: 1})
	for range symbols - 2 {
		parent, ok := d.symbol(l, 1, api.MaxCode-1)
		if !ok {
			return l
		}
		child, _ := d.symbol(l, 0, 0)
		l[parent]++
		l[child] = l[parent]
	}
	return l
}

// fitting returns valid lengths: such as leave no code unused, from some of which symbols are taken or whose lengths are increased.
func (d *dice) fitting() api.Lengths {
	l := d.complete(2 + d.roll(last))
	for range d.roll(6) {
		s := d.roll(api.Symbols)
		switch d.roll(2) {
		case 0:
			l[s] = 0
		case 1:
			if l[s] > 0 {
				l[s] += uint8(d.roll(api.MaxCode + 1 - int(l[s])))
			}
		}
	}
	return l
}

// lengthsAt returns these lengths.
func lengthsAt(lengths map[int]uint8) api.Lengths {
	var l api.Lengths
	for s, n := range lengths {
		l[s] = n
	}
	return l
}

// evenly returns one length for as many symbols, the last ones.
func evenly(length uint8, many int) api.Lengths {
	var l api.Lengths
	for s := range many {
		l[last-s] = length
	}
	return l
}

// all returns one length for all symbols.
func all(length uint8) api.Lengths { return evenly(length, api.Symbols) }

// steps returns the lengths 1, 2, 3 and on to MaxCode of as many symbols from a first one on.
func steps(first int) api.Lengths {
	var l api.Lengths
	for i := range api.MaxCode {
		l[first+i] = uint8(i + 1)
	}
	return l
}

func example() api.Lengths { return api.Lengths{3, 3, 2, 1} }

// chosen returns valid lengths of many kinds.
func chosen() []api.Lengths {
	return []api.Lengths{
		example(), {}, {1}, {2}, {15}, {0: 14}, {last: 1}, {last: 15}, {0: 1, last: 1}, {0: 1, 1: 2, last: 2}, {1, 2, 3, 3}, {2, 4, 15}, {15, 4, 2}, {0: 15, 100: 1, last: 15}, {0: 2, 1: 1, 256: 2},
		evenly(8, 256), evenly(8, 255), evenly(7, 128), evenly(2, 3), all(9), all(14), all(15),
		steps(0), steps(100), steps(api.Symbols - api.MaxCode), api.Lengths{0: 15, 1: 1, 2: 2, 3: 3, 4: 4, 5: 5, 6: 6, 7: 7, 8: 8, 9: 9, 10: 10, 11: 11, 12: 12, 13: 13, 14: 14, last: 15},
	}
}

// valid returns lengths that are valid, chosen ones and thrown ones.
func valid() []api.Lengths {
	d := dice(1)
	l := chosen()
	for symbols := 2; symbols <= api.Symbols; symbols += 1 + d.roll(5) {
		l = append(l, d.complete(symbols), d.fitting())
	}
	return l
}

// invalid returns lengths that are not valid: such as have codes that don't fit, by little or much, and such as are too great.
func invalid() []api.Lengths {
	d := dice(2)
	l := []api.Lengths{
		{1, 1, 1}, {1, 1, 15}, {0: 1, 100: 1, last: 15}, {3, 3, 2, 1, 15}, {2, 2, 2, 2, 2}, {0: 1, 1: 2, 2: 2, last: 14}, {0: 16, last: 16}, {0: 255, last: 16},
		evenly(8, 257), all(1), all(2), all(8), all(16), all(17), all(255),
	}
	for length := uint8(1); length <= 7; length++ {
		l = append(l, evenly(length, 1<<length+1))
	}
	for _, base := range []api.Lengths{{}, {1}, {0: 1, last: 1}, example(), all(15), d.complete(90), d.fitting()} {
		for _, s := range places {
			other := base
			other[s] = tooGreat[d.roll(len(tooGreat))]
			l = append(l, other)
		}
		for _, length := range tooGreat {
			other := base
			other[places[d.roll(len(places))]] = length
			l = append(l, other)
		}
	}
	for range 50 {
		more := d.complete(2 + d.roll(200))
		s, _ := d.symbol(more, 0, 0)
		more[s] = uint8(1 + d.roll(15))
		l = append(l, more, d.lengths(15), d.lengths(255))
	}
	return l
}

// coded returns the symbols whose length is above 0.
func coded(l api.Lengths) []int {
	var symbols []int
	for s, length := range l {
		if length > 0 {
			symbols = append(symbols, s)
		}
	}
	return symbols
}

// uncoded returns the symbols whose length is 0.
func uncoded(l api.Lengths) []int {
	var symbols []int
	for s, length := range l {
		if length == 0 {
			symbols = append(symbols, s)
		}
	}
	return symbols
}

// following returns the string of digits 0 and 1 that is one more.
func following(digits string) string {
	zero := strings.LastIndexByte(digits, '0')
	if zero < 0 {
		return "1" + strings.Repeat("0", len(digits))
	}
	return digits[:zero] + "1" + strings.Repeat("0", len(digits)-zero-1)
}

// codesOf returns the codes of valid lengths by the definition, written with the digits 0 and 1.
func codesOf(l api.Lengths) map[int]string {
	codes := map[int]string{}
	code := ""
	for length := uint8(1); length <= 15; length++ {
		for s := range api.Symbols {
			if l[s] != length {
				continue
			}
			if len(codes) > 0 {
				code = following(code)
			}
			code += strings.Repeat("0", int(length)-len(code))
			codes[s] = code
		}
	}
	return codes
}

// spelt returns the digits of the encoding of symbols that have a code.
func spelt(l api.Lengths, symbols ...int) string {
	codes := codesOf(l)
	var s strings.Builder
	for _, symbol := range symbols {
		s.WriteString(codes[symbol])
	}
	return s.String()
}

// parsed returns the symbols of which digits are the encoding.
func parsed(codes map[int]string, digits string) (symbols []int, ok bool) {
	begun := map[string]int{}
	for s, code := range codes {
		begun[code] = s
	}
	for digits != "" {
		length := 1
		for ; length <= len(digits); length++ {
			if s, ok := begun[digits[:length]]; ok {
				symbols = append(symbols, s)
				break
			}
		}
		if length > len(digits) {
			return nil, false
		}
		digits = digits[length:]
	}
	return symbols, true
}

// packed returns the bytes of digits, the last one padded with zeros.
func packed(digits string) []byte {
	digits += strings.Repeat("0", (8-len(digits)%8)%8)
	b := make([]byte, len(digits)/8)
	for i := range b {
		for _, digit := range digits[8*i : 8*i+8] {
			b[i] = 2*b[i] + byte(digit-'0')
		}
	}
	return b
}

// unpacked returns the digits of bytes.
func unpacked(b []byte) string {
	var s strings.Builder
	for _, one := range b {
		fmt.Fprintf(&s, "%08b", one)
	}
	return s.String()
}

// writer returns a writer that holds digits.
func writer(t *testing.T, digits string) *bitwriter.Writer {
	t.Helper()
	w := bitwriter.New()
	for _, digit := range digits {
		if !w.Put(uint32(digit-'0'), 1) {
			t.Fatalf("a writer of %s", digits)
		}
	}
	return w
}

// shown holds the lengths other than 0, for messages.
func shown(l api.Lengths) map[int]uint8 {
	m := map[int]uint8{}
	for s, n := range l {
		if n != 0 {
			m[s] = n
		}
	}
	return m
}

// brief returns the first numbers of many, for messages.
func brief(symbols []int) string {
	if len(symbols) > 40 {
		return fmt.Sprintf("%d and more, %d in all", symbols[:40], len(symbols))
	}
	return fmt.Sprint(symbols)
}

func wantWriter(t *testing.T, w *bitwriter.Writer, digits string) {
	t.Helper()
	if b := w.Bytes(); w.Len() != len(digits) || !bytes.Equal(b, packed(digits)) {
		t.Errorf("a writer of %d bits %.100s, want %d bits %.100s", w.Len(), unpacked(b), len(digits), digits)
	}
}

func wantPut(t *testing.T, w *bitwriter.Writer, l api.Lengths, symbols ...int) {
	t.Helper()
	if e := prefixenc.Put(w, l, symbols...); e != api.OK {
		t.Errorf("Put(%v, %s): %d", shown(l), brief(symbols), e)
	}
}

func wantPutError(t *testing.T, w *bitwriter.Writer, l api.Lengths, symbols ...int) {
	t.Helper()
	if e := prefixenc.Put(w, l, symbols...); e != api.ErrArg {
		t.Errorf("Put(%v, %s): %d, want ErrArg", shown(l), brief(symbols), e)
	}
}

func wantSize(t *testing.T, l api.Lengths, size int, symbols ...int) {
	t.Helper()
	if n, e := prefixenc.Size(l, symbols...); n != size || e != api.OK {
		t.Errorf("Size(%v, %s): %d, %d, want %d", shown(l), brief(symbols), n, e, size)
	}
}

func wantSizeError(t *testing.T, l api.Lengths, symbols ...int) {
	t.Helper()
	if n, e := prefixenc.Size(l, symbols...); n != 0 || e != api.ErrArg {
		t.Errorf("Size(%v, %s): %d, %d, want ErrArg", shown(l), brief(symbols), n, e)
	}
}

func wantSpell(t *testing.T, l api.Lengths, digits string, symbols ...int) {
	t.Helper()
	if b, many, e := prefixenc.Spell(l, symbols...); !bytes.Equal(b, packed(digits)) || many != len(digits) || e != api.OK {
		t.Errorf("Spell(%v, %s): %.100s, %d, %d, want %.100s, %d", shown(l), brief(symbols), unpacked(b), many, e, digits, len(digits))
	}
}

func wantSpellError(t *testing.T, l api.Lengths, symbols ...int) {
	t.Helper()
	if b, many, e := prefixenc.Spell(l, symbols...); len(b) != 0 || many != 0 || e != api.ErrArg {
		t.Errorf("Spell(%v, %s): %.100s, %d, %d, want ErrArg", shown(l), brief(symbols), unpacked(b), many, e)
	}
}

func wantRead(t *testing.T, l api.Lengths, b []byte, many int, want ...int) {
	t.Helper()
	if symbols, e := prefixenc.Read(l, b, many); !slices.Equal(symbols, want) || e != api.OK {
		t.Errorf("Read(%v, %.100s, %d): %s, %d, want %s", shown(l), unpacked(b), many, brief(symbols), e, brief(want))
	}
}

func wantReadError(t *testing.T, l api.Lengths, b []byte, many int) {
	t.Helper()
	if symbols, e := prefixenc.Read(l, b, many); len(symbols) != 0 || e != api.ErrArg {
		t.Errorf("Read(%v, %.100s, %d): %s, %d, want ErrArg", shown(l), unpacked(b), many, brief(symbols), e)
	}
}

// wantReadByDefinition reads the first many digits.
func wantReadByDefinition(t *testing.T, l api.Lengths, codes map[int]string, digits string, many int) {
	t.Helper()
	if symbols, ok := parsed(codes, digits[:many]); ok {
		wantRead(t, l, packed(digits), many, symbols...)
	} else {
		wantReadError(t, l, packed(digits), many)
	}
}

// wantEncoding asks for all that the promises say of symbols that can be encoded with lengths, as digits.
func wantEncoding(t *testing.T, l api.Lengths, digits string, symbols ...int) {
	t.Helper()
	wantSize(t, l, len(digits), symbols...)
	wantSpell(t, l, digits, symbols...)
	wantRead(t, l, packed(digits), len(digits), symbols...)
	for _, before := range []string{"", "1", "0110011", "10110010"} {
		w := writer(t, before)
		wantPut(t, w, l, symbols...)
		wantWriter(t, w, before+digits)
	}
}

// wantNone asks for all that the promises say of symbols that can't be encoded with lengths.
func wantNone(t *testing.T, l api.Lengths, symbols ...int) {
	t.Helper()
	wantSizeError(t, l, symbols...)
	wantSpellError(t, l, symbols...)
	wantPutError(t, nil, l, symbols...)
	for _, before := range []string{"", "1", "10110010"} {
		w := writer(t, before)
		wantPutError(t, w, l, symbols...)
		wantWriter(t, w, before)
	}
}

// P11.1 and P11.2: symbols that can be encoded

func TestEncodingOfTheExample(t *testing.T) {
	wantEncoding(t, example(), "100110", 2, 3, 0)
	if b, many, e := prefixenc.Spell(example(), 2, 3, 0); !bytes.Equal(b, []byte{152}) || many != 6 || e != api.OK {
		t.Error(b, many, e)
	}
}

func TestEncodingOfOrdinarySymbols(t *testing.T) {
	wantEncoding(t, example(), "110111100", 0, 1, 2, 3)
	wantEncoding(t, example(), "010111110", 3, 2, 1, 0)
	wantEncoding(t, example(), "1111101100100", 1, 0, 0, 3, 2, 3)
	wantEncoding(t, example(), "111111"+"0"+"111111111", 1, 1, 3, 1, 1, 1)
	wantEncoding(t, api.Lengths{2, 2, 2, 2}, "0001101100", 0, 1, 2, 3, 0)
	wantEncoding(t, api.Lengths{2, 4, 15}, "010100000000000"+"00"+"0100", 2, 0, 1)
	wantEncoding(t, api.Lengths{0: 1, 1: 2, api.Eob: 2}, "1001011", 1, 0, 1, api.Eob)
}

func TestEncodingOfNoSymbols(t *testing.T) {
	for _, l := range valid() {
		wantEncoding(t, l, "")
		wantEncoding(t, l, "", []int{}...)
	}
}

func TestEncodingOfOneSymbol(t *testing.T) {
	for _, l := range valid() {
		for s, code := range codesOf(l) {
			wantSize(t, l, len(code), s)
			wantSpell(t, l, code, s)
			wantRead(t, l, packed(code), len(code), s)
		}
	}
	for _, l := range chosen() {
		for s, code := range codesOf(l) {
			wantEncoding(t, l, code, s)
		}
	}
}

func TestEncodingWithASingleCode(t *testing.T) {
	for _, s := range []int{0, 1, 100, 255, 256, api.Eob} {
		for length := 1; length <= 15; length++ {
			l := lengthsAt(map[int]uint8{s: uint8(length)})
			for many := range 20 {
				wantEncoding(t, l, strings.Repeat("0", length*many), slices.Repeat([]int{s}, many)...)
			}
		}
	}
}

func TestEncodingOfTheFirstAndTheLastSymbol(t *testing.T) {
	wantEncoding(t, api.Lengths{0: 1, last: 1}, "0110", 0, last, last, 0)
	wantEncoding(t, api.Lengths{0: 2, 128: 1, last: 2}, "11100", last, 0, 128)
	wantEncoding(t, api.Lengths{0: 15, 100: 1, 255: 14, last: 15}, "100000000000011"+"0"+"100000000000010"+"10000000000000", last, 100, 0, 255)
	wantEncoding(t, all(9), "100000001"+"000000000"+"011111111", api.Eob, 0, 255)
}

func TestEncodingWithCodesOfOneAndOfFifteenBits(t *testing.T) {
	wantEncoding(t, api.Lengths{0: 1, 1: 15}, "0"+"100000000000000"+"00", 0, 1, 0, 0)
	wantEncoding(t, api.Lengths{0: 15, 1: 1}, "0"+"100000000000000"+"0", 1, 0, 1)
	for _, first := range []int{0, 50, api.Symbols - api.MaxCode} {
		digits := ""
		var symbols []int
		for i := range api.MaxCode {
			digits += strings.Repeat("1", i) + "0"
			symbols = append(symbols, first+i)
		}
		wantEncoding(t, steps(first), digits, symbols...)
	}
	full := steps(0)
	full[last] = 15
	wantEncoding(t, full, strings.Repeat("1", 15)+"0"+strings.Repeat("1", 14)+"0", last, 0, 14)
	codes := codesOf(all(15))
	for s := range api.Symbols {
		wantSpell(t, all(15), codes[s]+codes[last-s]+codes[s], s, last-s, s)
	}
}

func TestEncodingOfEachNumberOfBits(t *testing.T) {
	d := dice(3)
	for many := range 70 {
		digits := d.digits(many)
		var symbols []int
		for _, digit := range digits {
			symbols = append(symbols, int(digit-'0')*last)
		}
		wantEncoding(t, api.Lengths{0: 1, last: 1}, digits, symbols...)
		// With codes of 3 bits, and one of 1 or of 2 bits at the end.
		symbols = slices.Repeat([]int{1}, many/3)
		digits = strings.Repeat("111", many/3)
		switch many % 3 {
		case 1:
			wantEncoding(t, example(), digits+"0", append(symbols, 3)...)
		case 2:
			wantEncoding(t, example(), digits+"10", append(symbols, 2)...)
		default:
			wantEncoding(t, example(), digits, symbols...)
		}
	}
}

func TestEncodingFollowsTheDefinition(t *testing.T) {
	d := dice(4)
	for _, l := range valid() {
		symbols := d.symbols(l, d.roll(60))
		wantEncoding(t, l, spelt(l, symbols...), symbols...)
	}
}

func TestEncodingOfManySymbols(t *testing.T) {
	d := dice(5)
	for _, l := range []api.Lengths{example(), all(9), all(15), steps(100), d.complete(200), d.fitting()} {
		for _, many := range []int{1000, 70000} {
			symbols := d.symbols(l, many)
			digits := spelt(l, symbols...)
			wantEncoding(t, l, digits, symbols...)
			symbols[many-1] = -1
			wantNone(t, l, symbols...)
		}
	}
}

// P11.1 and P11.2: symbols that can't be encoded

func TestEncodingOfNumbersThatAreNoSymbols(t *testing.T) {
	for _, l := range chosen() {
		for _, wrong := range notSymbols {
			wantNone(t, l, wrong)
		}
	}
	for _, wrong := range notSymbols {
		wantNone(t, example(), wrong, 2, 3)
		wantNone(t, example(), 2, wrong, 3)
		wantNone(t, example(), 2, 3, wrong)
		wantNone(t, all(9), 0, 1, wrong, 256, 257)
		wantNone(t, all(9), wrong, wrong)
	}
}

func TestEncodingOfSymbolsWithoutACode(t *testing.T) {
	for _, l := range chosen() {
		for _, wrong := range uncoded(l) {
			wantSizeError(t, l, wrong)
			wantSpellError(t, l, wrong)
			wantPutError(t, bitwriter.New(), l, wrong)
		}
	}
	for _, wrong := range []int{4, 5, 100, 255, 256, 257} {
		wantNone(t, example(), wrong)
		wantNone(t, example(), wrong, 2, 3)
		wantNone(t, example(), 2, wrong, 3)
		wantNone(t, example(), 2, 3, wrong)
	}
	for _, wrong := range []int{0, 1, 128, 256, last} {
		l := all(9)
		l[wrong] = 0
		wantNone(t, l, wrong)
		wantNone(t, l, 100, wrong)
		wantNone(t, l, wrong, 100)
	}
}

// Wherever the wrong symbol stands, nothing is written.
func TestEncodingWithAWrongSymbolAtEachPlace(t *testing.T) {
	d := dice(6)
	for _, l := range []api.Lengths{example(), {0: 1, last: 1}, steps(50), evenly(8, 255), d.complete(40), d.fitting()} {
		right := d.symbols(l, 30)
		for at := range right {
			for _, wrong := range []int{-1, api.Symbols, uncoded(l)[d.roll(len(uncoded(l)))], notSymbols[d.roll(len(notSymbols))]} {
				symbols := slices.Clone(right)
				symbols[at] = wrong
				wantNone(t, l, symbols...)
				wantNone(t, l, symbols[:at+1]...)
				wantNone(t, l, symbols[at:]...)
			}
		}
		wantEncoding(t, l, spelt(l, right...), right...)
	}
}

func TestEncodingWithoutAnyCode(t *testing.T) {
	wantEncoding(t, api.Lengths{}, "")
	for s := range api.Symbols {
		wantNone(t, api.Lengths{}, s)
	}
}

// Lengths that are not valid are an error even where no symbol is to be encoded.
func TestEncodingWithInvalidLengths(t *testing.T) {
	for _, l := range invalid() {
		wantNone(t, l)
		wantNone(t, l, coded(l)[0])
		wantNone(t, l, 0)
		wantNone(t, l, last)
		wantNone(t, l, coded(l)...)
		wantNone(t, l, -1)
		wantNone(t, l, api.Symbols)
	}
}

// P11.1: Put

func TestPutBehindAnyNumberOfBits(t *testing.T) {
	d := dice(7)
	for _, l := range chosen() {
		symbols := d.symbols(l, 9)
		digits := spelt(l, symbols...)
		for many := range 25 {
			for _, before := range []string{strings.Repeat("0", many), strings.Repeat("1", many), d.digits(many)} {
				w := writer(t, before)
				wantPut(t, w, l, symbols...)
				wantWriter(t, w, before+digits)
				wantPut(t, w, l)
				wantWriter(t, w, before+digits)
			}
		}
	}
}

func TestPutAppendsWhatSpellReturns(t *testing.T) {
	d := dice(8)
	for _, l := range valid() {
		before, symbols := d.digits(d.roll(100)), d.symbols(l, d.roll(50))
		b, many, _ := prefixenc.Spell(l, symbols...)
		size, _ := prefixenc.Size(l, symbols...)
		w := writer(t, before)
		wantPut(t, w, l, symbols...)
		wantWriter(t, w, before+unpacked(b)[:many])
		if size != many {
			t.Errorf("%v: size %d of %d bits", shown(l), size, many)
		}
	}
}

func TestPutGoesOnAfterPut(t *testing.T) {
	d := dice(9)
	for _, before := range []string{"", "1", "101"} {
		w, other := writer(t, before), writer(t, before)
		s := before
		for _, l := range valid() {
			symbols := d.symbols(l, d.roll(10))
			wantPut(t, w, l, symbols...)
			s += spelt(l, symbols...)
			wantPutError(t, w, l, append(symbols, -1)...)
			wantPutError(t, w, all(1))
			w.Put(2, 2)
			s += "10"
			if d.roll(10) == 0 {
				s += strings.Repeat("0", w.Pad())
			}
		}
		wantWriter(t, w, s)
		wantWriter(t, other, before)
	}
}

func TestPutWithoutAWriter(t *testing.T) {
	d := dice(10)
	for _, l := range valid() {
		wantPutError(t, nil, l)
		wantPutError(t, nil, l, d.symbols(l, 3)...)
		wantPutError(t, nil, l, -1)
	}
	for _, l := range invalid() {
		wantPutError(t, nil, l)
		wantPutError(t, nil, l, coded(l)...)
	}
}

// A writer that New did not make has no bits.
func TestPutOfAZeroWriter(t *testing.T) {
	var w bitwriter.Writer
	wantPutError(t, &w, example(), 4)
	wantWriter(t, &w, "")
	wantPut(t, &w, example(), 2, 3, 0)
	wantWriter(t, &w, "100110")
}

// P11.2

func TestSpellPadsWithZeros(t *testing.T) {
	for many := 1; many <= 33; many++ {
		b, n, e := prefixenc.Spell(api.Lengths{0: 1, last: 1}, slices.Repeat([]int{last}, many)...)
		if n != many || e != api.OK || len(b) != (many+7)/8 {
			t.Fatalf("%d bits: %d bytes, %d", n, len(b), e)
		}
		if digits := unpacked(b); strings.Contains(digits[:many], "0") || strings.Contains(digits[many:], "1") {
			t.Errorf("%d bits: %s", many, digits)
		}
	}
}

func TestSpellReturnsNewMemory(t *testing.T) {
	d := dice(11)
	for _, l := range chosen()[2:] {
		symbols := d.symbols(l, 21)
		first, many, _ := prefixenc.Spell(l, symbols...)
		second, _, _ := prefixenc.Spell(l, symbols...)
		for i := range first[:cap(first)] {
			first[:cap(first)][i] ^= 255
		}
		_ = append(first, 9)
		if digits := spelt(l, symbols...); unpacked(second)[:many] != digits {
			t.Errorf("%v: the results share memory: %s, want %s", shown(l), unpacked(second), digits)
		}
		wantSpell(t, l, spelt(l, symbols...), symbols...)
	}
}

// P11.3

func TestReadOfTheExample(t *testing.T) {
	wantRead(t, example(), []byte{152}, 6, 2, 3, 0)
	wantRead(t, example(), []byte{152}, 3, 2, 3)
	wantRead(t, example(), []byte{152}, 2, 2)
	wantRead(t, example(), []byte{152}, 7, 2, 3, 0, 3)
	wantRead(t, example(), []byte{152}, 8, 2, 3, 0, 3, 3)
	wantReadError(t, example(), []byte{152}, 1)
	wantReadError(t, example(), []byte{152}, 4)
	wantReadError(t, example(), []byte{152}, 5)
	wantReadError(t, example(), []byte{152}, 9)
}

func TestReadOfNoBits(t *testing.T) {
	for _, l := range valid() {
		for _, b := range [][]byte{nil, {}, {0}, {255}, {1, 2, 3}, make([]byte, 5, 9)} {
			wantRead(t, l, b, 0)
		}
	}
	for _, l := range invalid() {
		for _, b := range [][]byte{nil, {}, {0}, {255}} {
			wantReadError(t, l, b, 0)
		}
	}
}

func TestReadOfAllBits(t *testing.T) {
	l := api.Lengths{0: 1, last: 1}
	wantRead(t, l, []byte{0xa5}, 8, last, 0, last, 0, 0, last, 0, last)
	for length := range 20 {
		b := bytes.Repeat([]byte{255}, length)
		wantRead(t, l, b, 8*length, slices.Repeat([]int{last}, 8*length)...)
		wantReadError(t, l, b, 8*length+1)
		wantRead(t, evenly(8, 256), b, 8*length, slices.Repeat([]int{last}, length)...)
		if length%3 == 0 {
			wantRead(t, example(), b, 8*length, slices.Repeat([]int{1}, 8*length/3)...)
		} else {
			wantReadError(t, example(), b, 8*length)
		}
	}
}

func TestReadOfWrongNumbersOfBits(t *testing.T) {
	for _, b := range [][]byte{nil, {}, {0}, {152}, {255}, make([]byte, 2), make([]byte, 33), make([]byte, 3, 100)} {
		for _, l := range []api.Lengths{example(), {0: 1, last: 1}, {}, {1}, all(9), {1, 1, 1}} {
			for _, many := range negative {
				wantReadError(t, l, b, many)
			}
			for _, more := range beyond {
				wantReadError(t, l, b, 8*len(b)+more)
			}
			wantReadError(t, l, b, math.MaxInt)
			wantReadError(t, l, b, math.MaxInt-7)
		}
	}
}

func TestReadWithInvalidLengths(t *testing.T) {
	for _, l := range invalid() {
		for _, b := range [][]byte{{0}, {255}, {0x98}, {0, 0, 0, 0}, {0xff, 0xff, 0xff, 0xff}} {
			for many := range 8*len(b) + 2 {
				wantReadError(t, l, b, many)
			}
		}
	}
}

func TestReadWithoutAnyCode(t *testing.T) {
	for many := 1; many <= 40; many++ {
		wantReadError(t, api.Lengths{}, make([]byte, 5), many)
		wantReadError(t, api.Lengths{}, bytes.Repeat([]byte{255}, 5), many)
	}
}

// The bits of a single symbol's code are 0.
func TestReadWithASingleCode(t *testing.T) {
	for _, s := range []int{0, 1, 100, 256, api.Eob} {
		for length := 1; length <= 15; length++ {
			l := lengthsAt(map[int]uint8{s: uint8(length)})
			for many := range 65 {
				digits := strings.Repeat("0", many)
				if many%length == 0 {
					wantRead(t, l, packed(digits), many, slices.Repeat([]int{s}, many/length)...)
				} else {
					wantReadError(t, l, packed(digits), many)
				}
				for at := range many {
					wantReadError(t, l, packed(digits[:at]+"1"+digits[at+1:]), many)
				}
			}
		}
	}
}

func TestReadOfBitsThatEndWithinACode(t *testing.T) {
	d := dice(12)
	for _, l := range valid() {
		codes := codesOf(l)
		symbols := d.symbols(l, 12)
		digits := spelt(l, symbols...)
		ends := map[int]int{0: 0}
		end := 0
		for i, s := range symbols {
			end += len(codes[s])
			ends[end] = i + 1
		}
		for many := range len(digits) + 1 {
			if n, ok := ends[many]; ok {
				wantRead(t, l, packed(digits), many, symbols[:n]...)
				wantRead(t, l, packed(digits[:many]), many, symbols[:n]...)
			} else {
				wantReadError(t, l, packed(digits), many)
				wantReadError(t, l, packed(digits[:many]), many)
			}
		}
	}
}

// What no code begins with is an error at the beginning, between codes and at the end, however many bits follow.
func TestReadOfBitsThatNoCodeBeginsWith(t *testing.T) {
	for _, c := range []struct {
		l             api.Lengths
		right, unused string
		symbols       []int
	}{
		{api.Lengths{1}, "00", "1", []int{0, 0}},
		{api.Lengths{2, 2, 2}, "011000", "11", []int{1, 2, 0}},
		{api.Lengths{2, 0, 3}, "010" + "00", "011", []int{2, 0}},
		{api.Lengths{last: 15}, strings.Repeat("0", 15), "000000000000001", []int{last}},
		{api.Lengths{1, 15}, "0" + "100000000000000", "100000000000001", []int{0, 1}},
		{steps(3), "110" + "0", strings.Repeat("1", 15), []int{5, 3}},
		{all(9), "100000001" + "000000000", "100000010", []int{last, 0}},
		{all(15), "000000100000001", "000000100000010", []int{last}},
	} {
		wantRead(t, c.l, packed(c.right), len(c.right), c.symbols...)
		wantReadError(t, c.l, packed(c.unused), len(c.unused))
		wantReadError(t, c.l, packed(c.unused+c.right), len(c.unused+c.right))
		wantReadError(t, c.l, packed(c.right+c.unused+c.right), len(c.right+c.unused+c.right))
		wantReadError(t, c.l, packed(c.right+c.unused), len(c.right+c.unused))
		for many := range 100 {
			zeros, ones := c.unused+strings.Repeat("0", many), c.unused+strings.Repeat("1", many)
			wantReadError(t, c.l, packed(zeros), len(zeros))
			wantReadError(t, c.l, packed(ones), len(ones))
		}
		wantRead(t, c.l, packed(c.right+c.unused), len(c.right), c.symbols...)
	}
}

// Bits that no code begins with stay an error when they are more than a number has; the last of them are those of a code.
func TestReadOfMoreBitsThanANumberHas(t *testing.T) {
	for _, l := range []api.Lengths{{1}, {2, 2, 2}, {1, 15}, {15}, {15, 15, 15}, all(15), steps(0)} {
		for many := 16; many < 140; many++ {
			for _, begun := range []string{"1", "11", "111111111111111", "110000000000000", "0000000000000011"} {
				if many < len(begun) {
					continue
				}
				digits := begun + strings.Repeat("0", many-len(begun))
				wantReadByDefinition(t, l, codesOf(l), digits, many)
			}
		}
	}
}

func TestReadTakesNoNoticeOfWhatFollows(t *testing.T) {
	d := dice(13)
	for _, l := range valid() {
		symbols := d.symbols(l, d.roll(12))
		digits := spelt(l, symbols...)
		for _, behind := range []string{"0", "1", strings.Repeat("0", 40), strings.Repeat("1", 40), d.digits(8), d.digits(90), digits} {
			b := packed(digits + behind)
			before := bytes.Clone(b)
			wantRead(t, l, b, len(digits), symbols...)
			if !bytes.Equal(b, before) {
				t.Errorf("%x is now %x", before, b)
			}
		}
		b := packed(digits)
		for i := len(digits); i < 8*len(b); i++ {
			b[i/8] |= 128 >> (i % 8)
		}
		wantRead(t, l, b, len(digits), symbols...)
	}
}

func TestReadOfAllShortSequences(t *testing.T) {
	for _, l := range []api.Lengths{example(), {}, {1}, {2}, {0: 1, last: 1}, {2, 2, 2}, {1, 3}, {3, 5, 5}, {0: 1, 1: 2, last: 2}, steps(0), evenly(4, 15), all(9)} {
		codes := codesOf(l)
		for many := range 11 {
			for n := range 1 << many {
				wantReadByDefinition(t, l, codes, fmt.Sprintf("%0*b", many, n)[:many], many)
			}
		}
	}
}

func TestReadFollowsTheDefinition(t *testing.T) {
	d := dice(14)
	for _, l := range valid() {
		codes := codesOf(l)
		for range 20 {
			digits := d.digits(d.roll(80))
			wantReadByDefinition(t, l, codes, digits, d.roll(len(digits)+1))
			digits = spelt(l, d.symbols(l, d.roll(8))...) + d.digits(d.roll(9))
			wantReadByDefinition(t, l, codes, digits, len(digits))
		}
	}
}

func TestReadReturnsNewMemory(t *testing.T) {
	d := dice(15)
	for _, l := range chosen()[2:] {
		symbols := d.symbols(l, 21)
		digits := spelt(l, symbols...)
		b := packed(digits)
		first, _ := prefixenc.Read(l, b, len(digits))
		second, _ := prefixenc.Read(l, b, len(digits))
		for i := range first[:cap(first)] {
			first[:cap(first)][i] = -7
		}
		_ = append(first, 9)
		clear(b)
		if !slices.Equal(second, symbols) {
			t.Errorf("%v: the results share memory: %d, want %d", shown(l), second, symbols)
		}
		wantRead(t, l, packed(digits), len(digits), symbols...)
	}
}

// Neither what arguments hold is changed nor what their memory has behind it.
func TestArgumentsStayAsTheyWere(t *testing.T) {
	d := dice(16)
	for _, l := range append(chosen(), invalid()...) {
		for _, symbols := range [][]int{nil, d.symbols(l, 9), {-1, 5}, {0, api.Symbols, 4}} {
			many := len(symbols)
			held := append(slices.Clone(symbols), 7, 8, 9)
			w := writer(t, "101")
			before := slices.Clone(held)
			prefixenc.Put(w, l, held[:many]...)
			prefixenc.Size(l, held[:many]...)
			prefixenc.Spell(l, held[:many]...)
			if !slices.Equal(held, before) {
				t.Errorf("%d is now %d", before, held)
			}
			w.Put(1, 1)
		}
		b := []byte{0x98, 0x5a, 0xff, 0, 1, 2, 3}
		for many := range 26 {
			prefixenc.Read(l, b[:3], many)
		}
		if !bytes.Equal(b, []byte{0x98, 0x5a, 0xff, 0, 1, 2, 3}) {
			t.Errorf("the bytes are now %x", b)
		}
	}
}

// The symbols that Put got may change afterwards.
func TestPutKeepsNothing(t *testing.T) {
	symbols := []int{2, 3, 0}
	w := bitwriter.New()
	wantPut(t, w, example(), symbols...)
	b, many, _ := prefixenc.Spell(example(), symbols...)
	clear(symbols)
	wantWriter(t, w, "100110")
	if unpacked(b)[:many] != "100110" {
		t.Error(unpacked(b), many)
	}
}

func TestReadStopsAtTheLengthNotTheCapacity(t *testing.T) {
	b := []byte{0x98, 0x98, 0x98}
	wantRead(t, example(), b[:1], 8, 2, 3, 0, 3, 3)
	for many := 9; many <= 24; many++ {
		wantReadError(t, example(), b[:1], many)
	}
	wantReadError(t, example(), b[:0], 6)
}

// P11.4

func TestReadInvertsSpell(t *testing.T) {
	d := dice(17)
	for _, l := range valid() {
		for range 5 {
			symbols := d.symbols(l, d.roll(100))
			b, many, e := prefixenc.Spell(l, symbols...)
			if e != api.OK {
				t.Fatal(e)
			}
			wantRead(t, l, b, many, symbols...)
		}
	}
}

func TestSpellInvertsRead(t *testing.T) {
	d := dice(18)
	read := 0
	for _, l := range valid() {
		for range 20 {
			digits := d.digits(d.roll(60))
			if d.roll(2) == 0 {
				digits = spelt(l, d.symbols(l, d.roll(9))...)
			}
			symbols, e := prefixenc.Read(l, packed(digits+d.digits(d.roll(20))), len(digits))
			if e != api.OK {
				continue
			}
			read++
			wantSpell(t, l, digits, symbols...)
			wantSize(t, l, len(digits), symbols...)
		}
	}
	if read < 1000 {
		t.Errorf("only %d were read", read)
	}
}

func TestEncodingOfAConcatenation(t *testing.T) {
	d := dice(19)
	for _, l := range valid() {
		first, second := d.symbols(l, d.roll(30)), d.symbols(l, d.roll(30))
		a, many, _ := prefixenc.Spell(l, first...)
		b, more, _ := prefixenc.Spell(l, second...)
		both := slices.Concat(first, second)
		wantSpell(t, l, unpacked(a)[:many]+unpacked(b)[:more], both...)
		wantSize(t, l, many+more, both...)
		w, other := bitwriter.New(), bitwriter.New()
		wantPut(t, w, l, first...)
		wantPut(t, w, l, second...)
		for _, s := range both {
			wantPut(t, other, l, s)
		}
		wantWriter(t, w, spelt(l, both...))
		wantWriter(t, other, spelt(l, both...))
		wantRead(t, l, w.Bytes(), w.Len(), both...)
	}
}

// Calls do not depend on earlier ones, nor on those with other lengths.
func TestCallsAreRepeatable(t *testing.T) {
	for range 3 {
		wantEncoding(t, example(), "100110", 2, 3, 0)
		wantEncoding(t, api.Lengths{1, 2, 3, 3}, "1101110", 2, 3, 0)
		wantNone(t, example(), 4)
		wantNone(t, all(1), 0)
		wantReadError(t, example(), []byte{152}, 5)
		wantReadError(t, all(1), []byte{152}, 6)
	}
}
