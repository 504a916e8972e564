package prefixdec_test

import (
	"fmt"
	"math"
	"slices"
	"strings"
	"testing"

	"winepress/api"
	"winepress/canonical"
	"winepress/kraft"
	"winepress/prefixdec"
	"winepress/prefixenc"
)

const last = api.Symbols - 1

// places holds symbols at which lengths are looked at: the ends, those next to them, the bytes' ends and others. The last one is Eob.
var places = []int{0, 1, 2, 3, 100, 127, 128, 254, 255, 256, last}

// tooGreat holds lengths that no code has; the low four bits of some are those of a length.
var tooGreat = []uint8{16, 17, 18, 30, 31, 32, 33, 63, 64, 79, 80, 127, 128, 129, 240, 241, 254, 255}

// notBits holds numbers that are no bits; the low bits of some are, and some are digits.
var notBits = []int{
	2, 3, 4, 7, 48, 49, 128, 255, 256, 257, 1 << 16, 1<<16 + 1, 1<<31 - 1, 1 << 31, 1<<31 + 1, 1<<32 - 1, 1 << 32, 1<<32 + 1, 1 << 40, 1 << 62, 1<<62 + 1, math.MaxInt - 1, math.MaxInt,
	-1, -2, -3, -128, -255, -256, -257, -1 << 16, -1<<31 + 1, -1 << 31, -1 << 32, -1<<32 + 1, -1 << 62, math.MinInt, math.MinInt + 1,
}

// negative holds numbers below 0; the low bits of some are a number of symbols.
var negative = []int{-1, -2, -3, -255, -256, -1 << 16, -1<<31 - 1, -1 << 31, -1<<31 + 2, -1 << 32, -1<<32 + 2, -1<<62 + 2, math.MinInt, math.MinInt + 1, math.MinInt + 2}

// offsets turn a number between 0 and 14, or a code, into one that can't be one; the low bits may still be.
var offsets = []int{1 << 16, 1 << 31, 1 << 32, 1 << 40, 1 << 62, math.MinInt, -1 << 62, -1 << 40, -1 << 32, -1 << 31, -1 << 16}

// dice gives numbers that look thrown, the same ones in every run.
type dice uint64

func (d *dice) roll(sides int) int {
	*d = *d*6364136223846793005 + 1442695040888963407
	return int(uint64(*d) >> 33 % uint64(sides))
}

// lengths returns lengths up to most for all symbols.
func (d *dice) lengths(most int) api.Lengths {
	var l api.Lengths
	for s := range l {
		l[s] = uint8(d.roll(most + 1))
	}
	return l
}

// bits returns that many bits.
func (d *dice) bits(many int) []int {
	b := make([]int, many)
	for i := range b {
		b[i] = d.roll(2)
	}
	return b
}

// symbol returns a symbol whose length is between two.
func (d *dice) symbol(l api.Lengths, from, to uint8) (symbol int, ok bool) {
	var some []int
	for s, length := range l {
		if length >= from && length <= to {
			some = append(some, s)
		}
	}
	if some == nil {
		return 0, false
	}
	return some[d.roll(len(some))], true
}

// symbols returns that many symbols of a code table.
func (d *dice) symbols(l api.Lengths, many int) []int {
	some := coded(l)
	symbols := make([]int, many)
	for i := range symbols {
		symbols[i] = some[d.roll(len(some))]
	}
	return symbols
}

// complete returns a code table of at least two symbols: one of those with a length is divided into two again and again.
func (d *dice) complete(symbols int) api.Lengths {
	l := lengthsAt(map[int]uint8{d.roll(last): 1, last: 1})
	for range symbols - 2 {
		parent, ok := d.symbol(l, 1, api.MaxCode-1)
		if !ok {
			return l
		}
		child, _ := d.symbol(l, 0, 0)
		l[parent]++
		l[child] = l[parent]
	}
	return l
}

// lengthsAt returns these lengths.
func lengthsAt(lengths map[int]uint8) api.Lengths {
	var l api.Lengths
	for s, n := range lengths {
		l[s] = n
	}
	return l
}

// evenly returns one length for as many symbols, the last ones.
func evenly(length uint8, many int) api.Lengths {
	var l api.Lengths
	for s := range many {
		l[last-s] = length
	}
	return l
}

// steps returns the code table of the lengths 1, 2, 3 and on to MaxCode from a first symbol on, and MaxCode for Eob.
func steps(first int) api.Lengths {
	var l api.Lengths
	for i := range api.MaxCode {
		l[first+i] = uint8(i + 1)
	}
	l[api.Eob] = api.MaxCode
	return l
}

// stepsBack returns the code table of the lengths MaxCode, MaxCode, 14, 13 and on to 1, the last one being that of Eob.
func stepsBack() api.Lengths {
	l := lengthsAt(map[int]uint8{0: api.MaxCode})
	for i := range api.MaxCode {
		l[last-i] = uint8(i + 1)
	}
	return l
}

// nineAndTen returns the code table of a code of 1 bit, 255 of 9 bits and two of 10 bits.
func nineAndTen() api.Lengths {
	l := evenly(9, api.Symbols)
	l[0], l[100], l[last] = 1, 10, 10
	return l
}

// manyLong returns the code table of a code of 1 bit, one of 2 bits and 256 of 10 bits.
func manyLong() api.Lengths {
	l := evenly(10, api.Symbols)
	l[0], l[1] = 1, 2
	return l
}

// full returns the code table of 254 codes of 8 bits and four of 9, which has all symbols.
func full() api.Lengths {
	l := evenly(8, api.Symbols)
	l[0], l[1], l[256], l[last] = 9, 9, 9, 9
	return l
}

func example() api.Lengths { return lengthsAt(map[int]uint8{0: 1, 1: 2, 257: 2}) }

// chosen returns code tables of many kinds.
func chosen() []api.Lengths {
	return []api.Lengths{
		example(), {0: 1, last: 1}, {256: 1, last: 1}, {100: 1, last: 1}, {0: 2, 1: 2, last: 1}, {0: 3, 1: 3, 2: 2, last: 1}, {0: 1, 1: 2, 2: 3, last: 3}, {0: 2, 1: 1, 256: 3, last: 3},
		evenly(1, 2), evenly(2, 4), evenly(3, 8), evenly(4, 16), evenly(5, 32), evenly(6, 64), evenly(7, 128), evenly(8, 256), lengthsAt(map[int]uint8{0: 2, 7: 2, 255: 2, last: 2}),
		steps(0), steps(100), steps(last - api.MaxCode), stepsBack(), nineAndTen(), manyLong(), full(),
		{0: 15, 1: 15, 2: 14, 3: 13, 4: 12, 5: 11, 6: 10, 7: 9, 8: 8, 9: 7, 10: 6, 11: 5, 12: 4, 13: 3, 14: 2, last: 1},
	}
}

// tables returns code tables, chosen ones and thrown ones.
func tables() []api.Lengths {
	d := dice(1)
	l := chosen()
	for symbols := 2; symbols <= api.Symbols; symbols += 1 + d.roll(5) {
		l = append(l, d.complete(symbols))
	}
	return l
}

// others returns lengths that form no code table: all 0, incomplete by little or much, too many, too great, and without one for Eob.
func others() []api.Lengths {
	d := dice(2)
	l := []api.Lengths{
		{}, {1}, {15}, {last: 1}, {last: 15}, {0: 1, 1: 1}, {3, 3, 2, 1}, {0: 1, 256: 1}, {0: 1, last: 2}, {0: 1, 1: 1, last: 1}, {0: 1, 1: 1, last: 15}, {0: 2, 1: 2, last: 2}, {0: 1, 1: 2, last: 15},
		{0: 16, last: 16}, {0: 1, last: 16}, {0: 1, last: 17}, {0: 17, last: 1}, {0: 1, last: 255}, {0: 1, 1: 16, last: 1}, {0: 1, 1: 255, last: 1},
		evenly(1, 3), evenly(1, 4), evenly(2, 3), evenly(2, 5), evenly(8, 255), evenly(8, 257), evenly(7, 127), evenly(7, 129), evenly(7, 256),
		evenly(1, api.Symbols), evenly(8, api.Symbols), evenly(9, api.Symbols), evenly(14, api.Symbols), evenly(15, api.Symbols), evenly(16, api.Symbols), evenly(255, api.Symbols),
	}
	for _, base := range []api.Lengths{{}, example(), {0: 1, last: 1}, steps(0), full(), d.complete(90)} {
		for _, s := range places {
			other := base
			other[s] = tooGreat[d.roll(len(tooGreat))]
			l = append(l, other)
		}
		for _, length := range tooGreat {
			other := base
			other[places[d.roll(len(places))]] = length
			l = append(l, other)
		}
	}
	for _, base := range chosen() {
		swapped, fewer, shorter, longer := base, base, base, base
		if s, ok := d.symbol(base, 0, 0); ok {
			swapped[s], swapped[api.Eob] = base[api.Eob], 0
			more := base
			more[s] = uint8(1 + d.roll(15))
			l = append(l, swapped, more)
		}
		fewer[coded(base)[0]] = 0
		longer[coded(base)[1]]++
		l = append(l, fewer, longer)
		if s, ok := d.symbol(base, 2, 15); ok {
			shorter[s]--
			l = append(l, shorter)
		}
	}
	for range 20 {
		l = append(l, d.lengths(15), d.lengths(255))
	}
	return l
}

// coded returns the symbols whose length is above 0.
func coded(l api.Lengths) []int {
	var symbols []int
	for s, length := range l {
		if length > 0 {
			symbols = append(symbols, s)
		}
	}
	return symbols
}

// following returns the string of digits 0 and 1 that is one more.
func following(digits string) string {
	zero := strings.LastIndexByte(digits, '0')
	if zero < 0 {
		return "1" + strings.Repeat("0", len(digits))
	}
	return digits[:zero] + "1" + strings.Repeat("0", len(digits)-zero-1)
}

// codesOf returns the codes of a code table by the definition, written with the digits 0 and 1.
func codesOf(l api.Lengths) map[int]string {
	codes := map[int]string{}
	code := ""
	for length := uint8(1); length <= 15; length++ {
		for s := range api.Symbols {
			if l[s] != length {
				continue
			}
			if len(codes) > 0 {
				code = following(code)
			}
			code += strings.Repeat("0", int(length)-len(code))
			codes[s] = code
		}
	}
	return codes
}

// symbolsOf returns the symbols by their codes.
func symbolsOf(l api.Lengths) map[string]int {
	symbols := map[string]int{}
	for s, code := range codesOf(l) {
		symbols[code] = s
	}
	return symbols
}

// partsOf returns the digits that codes begin with and that are shorter than these codes.
func partsOf(l api.Lengths) map[string]bool {
	parts := map[string]bool{}
	for _, code := range codesOf(l) {
		for length := range code {
			parts[code[:length]] = true
		}
	}
	return parts
}

// bitsOf returns the bits that digits are.
func bitsOf(digits string) []int {
	b := make([]int, len(digits))
	for i, digit := range digits {
		b[i] = int(digit - '0')
	}
	return b
}

// spelt returns the bits of the codes of symbols.
func spelt(l api.Lengths, symbols ...int) []int {
	codes := codesOf(l)
	var b []int
	for _, s := range symbols {
		b = append(b, bitsOf(codes[s])...)
	}
	return b
}

// digitsOf returns the digits of a number, as many as asked for.
func digitsOf(number, many int) string {
	var s strings.Builder
	for i := many - 1; i >= 0; i-- {
		s.WriteByte(byte('0' + number>>i&1))
	}
	return s.String()
}

// stateOf returns the state in which digits have been read.
func stateOf(l api.Lengths, digits string) api.CodeState {
	t := api.CodeState{Lengths: l, Bits: len(digits)}
	for _, bit := range bitsOf(digits) {
		t.Code = 2*t.Code + bit
	}
	return t
}

// allOf decodes by the definition, from the codes written with digits.
func allOf(codes map[string]int, many int, b []int) (symbols []int, n int, e api.Errno) {
	part := ""
	for len(symbols) < many {
		if n == len(b) {
			return nil, 0, api.ErrShort
		}
		if b[n] != 0 && b[n] != 1 {
			return nil, 0, api.ErrArg
		}
		part += fmt.Sprint(b[n])
		n++
		if s, ok := codes[part]; ok {
			symbols = append(symbols, s)
			part = ""
		}
	}
	return symbols, n, api.OK
}

// shown holds the lengths other than 0, for messages.
func shown(l api.Lengths) map[int]uint8 {
	m := map[int]uint8{}
	for s, n := range l {
		if n != 0 {
			m[s] = n
		}
	}
	return m
}

// showState returns a state for messages.
func showState(t api.CodeState) string {
	return fmt.Sprintf("{%v %d of %d bits}", shown(t.Lengths), t.Code, t.Bits)
}

// brief returns the first numbers of many, for messages.
func brief(numbers []int) string {
	if len(numbers) > 40 {
		return fmt.Sprintf("%d and more, %d in all", numbers[:40], len(numbers))
	}
	return fmt.Sprint(numbers)
}

func wantValid(t *testing.T, c api.CodeState, want bool) {
	t.Helper()
	if ok := prefixdec.Valid(c); ok != want {
		t.Errorf("Valid(%s): %v", showState(c), ok)
	}
}

func wantStep(t *testing.T, c api.CodeState, bit int, want api.CodeState, symbol int, done bool) {
	t.Helper()
	if o, s, ok := prefixdec.Step(c, bit); o != want || s != symbol || ok != done {
		t.Errorf("Step(%s, %d): %s, %d, %v, want %s, %d, %v", showState(c), bit, showState(o), s, ok, showState(want), symbol, done)
	}
}

// wantUnchanged asks for a step that returns the state as it is.
func wantUnchanged(t *testing.T, c api.CodeState, bit int) {
	t.Helper()
	wantStep(t, c, bit, c, 0, false)
}

// wantInvalid asks for all that the promises say of a state that is not valid.
func wantInvalid(t *testing.T, c api.CodeState) {
	t.Helper()
	wantValid(t, c, false)
	wantUnchanged(t, c, 0)
	wantUnchanged(t, c, 1)
	wantUnchanged(t, c, 2)
}

func wantAll(t *testing.T, l api.Lengths, many int, b []int, want []int, n int) {
	t.Helper()
	if symbols, m, e := prefixdec.All(l, many, b...); !slices.Equal(symbols, want) || m != n || e != api.OK {
		t.Errorf("All(%v, %d, %s): %s, %d, %d, want %s, %d", shown(l), many, brief(b), brief(symbols), m, e, brief(want), n)
	}
}

func wantAllError(t *testing.T, l api.Lengths, many int, b []int, want api.Errno) {
	t.Helper()
	if symbols, n, e := prefixdec.All(l, many, b...); len(symbols) != 0 || n != 0 || e != want {
		t.Errorf("All(%v, %d, %s): %s, %d, %d, want error %d", shown(l), many, brief(b), brief(symbols), n, e, want)
	}
}

// wantAllByDefinition decodes bits, which may be wrong or too few.
func wantAllByDefinition(t *testing.T, l api.Lengths, codes map[string]int, many int, b []int) {
	t.Helper()
	if symbols, n, e := allOf(codes, many, b); e == api.OK {
		wantAll(t, l, many, b, symbols, n)
	} else {
		wantAllError(t, l, many, b, e)
	}
}

// wantSymbol steps through the bits of a symbol's code, and asks for valid states and for nothing before the last bit.
func wantSymbol(t *testing.T, l api.Lengths, code string, symbol int) {
	t.Helper()
	c, _ := prefixdec.New(l)
	for i, bit := range bitsOf(code) {
		wantValid(t, c, true)
		if i < len(code)-1 {
			wantStep(t, c, bit, stateOf(l, code[:i+1]), 0, false)
		} else {
			wantStep(t, c, bit, api.CodeState{Lengths: l}, symbol, true)
		}
		c, _, _ = prefixdec.Step(c, bit)
	}
	wantValid(t, c, true)
}

// P12.1: New

func TestNewOfCodeTables(t *testing.T) {
	for _, l := range tables() {
		if c, e := prefixdec.New(l); c != (api.CodeState{Lengths: l}) || e != api.OK {
			t.Errorf("New(%v): %s, %d", shown(l), showState(c), e)
		}
		wantValid(t, api.CodeState{Lengths: l}, true)
	}
}

func TestNewOfOtherLengths(t *testing.T) {
	for _, l := range others() {
		if c, e := prefixdec.New(l); c != (api.CodeState{}) || e != api.ErrArg {
			t.Errorf("New(%v): %s, %d, want ErrArg", shown(l), showState(c), e)
		}
	}
}

// The tests' own lists hold what they say.
func TestTablesAreTables(t *testing.T) {
	for _, l := range tables() {
		if !kraft.Table(l) {
			t.Errorf("%v is no code table", shown(l))
		}
		codes, e := canonical.Codes(l)
		for s, code := range codesOf(l) {
			if e != api.OK || digitsOf(int(codes[s]), int(l[s])) != code {
				t.Errorf("%v: the code of %d is %b, not %s", shown(l), s, codes[s], code)
			}
		}
	}
	for _, l := range others() {
		if kraft.Table(l) {
			t.Errorf("%v is a code table", shown(l))
		}
	}
}

// P12.1: Valid

func TestValidOfTheExample(t *testing.T) {
	wantValid(t, stateOf(example(), ""), true)
	wantValid(t, stateOf(example(), "1"), true)
	for _, digits := range []string{"0", "00", "01", "10", "11", "000", "100", "111"} {
		wantInvalid(t, stateOf(example(), digits))
	}
}

// All numbers of 0 to 14 bits, and those of 15 and 16 bits, of which no state is valid.
func TestValidOfAllStates(t *testing.T) {
	for _, l := range chosen() {
		parts := partsOf(l)
		for bits := range 17 {
			for code := range 1 << bits {
				c := api.CodeState{Lengths: l, Code: code, Bits: bits}
				wantValid(t, c, parts[digitsOf(code, bits)])
			}
		}
	}
}

func TestValidFollowsTheDefinition(t *testing.T) {
	d := dice(3)
	for _, l := range tables() {
		parts := partsOf(l)
		for part := range parts {
			wantValid(t, stateOf(l, part), true)
		}
		for code := range 1 << 9 {
			wantValid(t, api.CodeState{Lengths: l, Code: code, Bits: 9}, parts[digitsOf(code, 9)])
		}
		for range 100 {
			bits := d.roll(15)
			code := d.roll(1 << bits)
			wantValid(t, api.CodeState{Lengths: l, Code: code, Bits: bits}, parts[digitsOf(code, bits)])
		}
	}
}

// 14 bits are valid where a code of 15 bits begins with them.
func TestValidOfFourteenBits(t *testing.T) {
	for _, l := range []api.Lengths{steps(0), steps(100), stepsBack()} {
		wantValid(t, api.CodeState{Lengths: l, Code: 1<<14 - 1, Bits: 14}, true)
		wantInvalid(t, api.CodeState{Lengths: l, Code: 1<<14 - 2, Bits: 14})
		wantInvalid(t, api.CodeState{Lengths: l, Code: 0, Bits: 14})
		wantInvalid(t, api.CodeState{Lengths: l, Code: 1 << 14, Bits: 14})
		wantInvalid(t, api.CodeState{Lengths: l, Code: 1<<15 - 1, Bits: 15})
		wantInvalid(t, api.CodeState{Lengths: l, Code: 1<<15 - 2, Bits: 15})
		wantInvalid(t, api.CodeState{Lengths: l, Code: 1<<16 - 1, Bits: 16})
	}
	// Where codes have at most 14 bits, 13 are valid and 14 are not.
	l := steps(0)
	l[api.Eob], l[14] = 14, 0
	wantValid(t, api.CodeState{Lengths: l, Code: 1<<13 - 1, Bits: 13}, true)
	wantInvalid(t, api.CodeState{Lengths: l, Code: 1<<14 - 1, Bits: 14})
}

// The number 0 is valid as long as no code is that short, and the greatest number of as many bits as long as one code is longer.
func TestValidOfTheLeastAndTheGreatestCode(t *testing.T) {
	for length := uint8(1); length <= 8; length++ {
		l := evenly(length, 1<<length)
		for bits := range int(length) {
			wantValid(t, api.CodeState{Lengths: l, Code: 0, Bits: bits}, true)
			wantValid(t, api.CodeState{Lengths: l, Code: 1<<bits - 1, Bits: bits}, true)
			wantInvalid(t, api.CodeState{Lengths: l, Code: -1, Bits: bits})
			wantInvalid(t, api.CodeState{Lengths: l, Code: 1 << bits, Bits: bits})
		}
		for bits := int(length); bits <= 16; bits++ {
			wantInvalid(t, api.CodeState{Lengths: l, Code: 0, Bits: bits})
			wantInvalid(t, api.CodeState{Lengths: l, Code: 1<<bits - 1, Bits: bits})
		}
	}
}

func TestValidOfWholeCodes(t *testing.T) {
	for _, l := range tables() {
		for _, code := range codesOf(l) {
			wantInvalid(t, stateOf(l, code))
			wantInvalid(t, stateOf(l, code+"0"))
			wantInvalid(t, stateOf(l, code+"1"))
		}
	}
}

// Codes with more bits than they have been read of are not valid, though their low bits are.
func TestValidOfCodesOutOfBounds(t *testing.T) {
	for _, l := range chosen() {
		for part := range partsOf(l) {
			c := stateOf(l, part)
			for _, by := range append([]int{1 << c.Bits, 2 << c.Bits, -1 << c.Bits, -2 << c.Bits, 1 << 14, 1 << 15, -1 << 14, -1 << 15}, offsets...) {
				other := c
				other.Code += by
				wantInvalid(t, other)
			}
			for _, code := range []int{-1, -2, -1 << c.Bits, 1 << c.Bits, 1<<c.Bits + 1, 2<<c.Bits - 1, math.MinInt, math.MaxInt, math.MaxInt - 1} {
				wantInvalid(t, api.CodeState{Lengths: l, Code: code, Bits: c.Bits})
			}
		}
	}
}

func TestValidOfBitsOutOfBounds(t *testing.T) {
	for _, l := range chosen() {
		for _, part := range []string{"", "1", "11", strings.Repeat("1", 7), strings.Repeat("1", 13), strings.Repeat("1", 14)} {
			c := stateOf(l, part)
			for _, by := range append([]int{16, 32, 64, 128, 256, 1 << 20, -16, -32, -64, -128, -256, -1 << 20}, offsets...) {
				other := c
				other.Bits += by
				wantInvalid(t, other)
			}
			for _, bits := range []int{-1, -2, -14, -15, 15, 16, 17, 31, 32, 33, 62, 63, 64, 65, 127, 255, math.MinInt, math.MinInt + 1, math.MaxInt, math.MaxInt - 1} {
				for _, code := range []int{c.Code, 0, 1, -1, 1<<15 - 1, 1 << 62, math.MaxInt, math.MinInt} {
					wantInvalid(t, api.CodeState{Lengths: l, Code: code, Bits: bits})
				}
			}
		}
	}
}

// What is no code table has no valid state, whatever the bits are.
func TestValidOfOtherLengths(t *testing.T) {
	for _, l := range others() {
		for bits := -1; bits <= 16; bits++ {
			most := 1<<max(bits, 0) - 1
			for _, code := range []int{-1, 0, 1, most / 2, most - 1, most, most + 1} {
				wantInvalid(t, api.CodeState{Lengths: l, Code: code, Bits: bits})
			}
		}
	}
}

// P12.1: Step

func TestStepOfTheExample(t *testing.T) {
	l := example()
	wantStep(t, stateOf(l, ""), 0, stateOf(l, ""), 0, true)
	wantStep(t, stateOf(l, ""), 1, stateOf(l, "1"), 0, false)
	wantStep(t, stateOf(l, "1"), 0, stateOf(l, ""), 1, true)
	wantStep(t, stateOf(l, "1"), 1, stateOf(l, ""), 257, true)
}

func TestStepOfTwoSymbols(t *testing.T) {
	for s := range last {
		l := lengthsAt(map[int]uint8{s: 1, last: 1})
		wantStep(t, stateOf(l, ""), 0, stateOf(l, ""), s, true)
		wantStep(t, stateOf(l, ""), 1, stateOf(l, ""), last, true)
	}
}

func TestStepThroughCodesOfEachLength(t *testing.T) {
	for _, first := range []int{0, 50, last - api.MaxCode} {
		l := steps(first)
		for i := range api.MaxCode {
			wantSymbol(t, l, strings.Repeat("1", i)+"0", first+i)
		}
		wantSymbol(t, l, strings.Repeat("1", api.MaxCode), api.Eob)
	}
	for i := range api.MaxCode {
		wantSymbol(t, stepsBack(), strings.Repeat("1", i)+"0", []int{last - i, 0}[i/14])
	}
	wantSymbol(t, stepsBack(), strings.Repeat("1", api.MaxCode), last-14)
}

func TestStepThroughCodesOfOneLength(t *testing.T) {
	for length := 1; length <= 8; length++ {
		for i := range 1 << length {
			wantSymbol(t, evenly(uint8(length), 1<<length), digitsOf(i, length), api.Symbols-1<<length+i)
		}
	}
}

func TestStepThroughCodesOfNineAndTenBits(t *testing.T) {
	l := nineAndTen()
	wantSymbol(t, l, "0", 0)
	wantSymbol(t, l, "100000000", 1)
	wantSymbol(t, l, "100000001", 2)
	wantSymbol(t, l, "101100010", 99)
	wantSymbol(t, l, "101100011", 101)
	wantSymbol(t, l, "111111110", 256)
	wantSymbol(t, l, "1111111110", 100)
	wantSymbol(t, l, "1111111111", last)
	wantStep(t, stateOf(l, "11111111"), 1, stateOf(l, "111111111"), 0, false)
	wantStep(t, stateOf(l, "11111111"), 0, stateOf(l, ""), 256, true)
}

func TestStepThroughAllSymbols(t *testing.T) {
	l := full()
	wantSymbol(t, l, "00000000", 2)
	wantSymbol(t, l, "11111101", 255)
	wantSymbol(t, l, "111111100", 0)
	wantSymbol(t, l, "111111101", 1)
	wantSymbol(t, l, "111111110", 256)
	wantSymbol(t, l, "111111111", last)
	for i := range 254 {
		wantSymbol(t, l, digitsOf(i, 8), i+2)
	}
}

// Every valid state, with both bits.
func TestStepFollowsTheDefinition(t *testing.T) {
	for _, l := range tables() {
		codes, parts := symbolsOf(l), partsOf(l)
		for part := range parts {
			for bit := range 2 {
				digits := part + fmt.Sprint(bit)
				if symbol, ok := codes[digits]; ok {
					wantStep(t, stateOf(l, part), bit, stateOf(l, ""), symbol, true)
				} else {
					wantStep(t, stateOf(l, part), bit, stateOf(l, digits), 0, false)
				}
			}
		}
	}
}

// Step leads to all valid states and to no other.
func TestStepLeadsToValidStates(t *testing.T) {
	for _, l := range tables() {
		c, _ := prefixdec.New(l)
		reached := map[api.CodeState]bool{c: true}
		for open := []api.CodeState{c}; len(open) > 0; open = open[1:] {
			wantValid(t, open[0], true)
			for bit := range 2 {
				o, _, _ := prefixdec.Step(open[0], bit)
				if !reached[o] {
					reached[o] = true
					open = append(open, o)
				}
			}
		}
		if want := len(partsOf(l)); len(reached) != want {
			t.Errorf("%v: %d states, want %d", shown(l), len(reached), want)
		}
	}
}

func TestStepOfWrongBits(t *testing.T) {
	for _, l := range chosen() {
		for part := range partsOf(l) {
			for _, bit := range notBits {
				wantUnchanged(t, stateOf(l, part), bit)
			}
		}
	}
}

func TestStepOfWrongStatesAndBits(t *testing.T) {
	l := others()
	for i, bit := range notBits {
		wantUnchanged(t, api.CodeState{}, bit)
		wantUnchanged(t, api.CodeState{Lengths: l[i]}, bit)
		wantUnchanged(t, api.CodeState{Lengths: example(), Code: 1}, bit)
		wantUnchanged(t, api.CodeState{Lengths: example(), Code: 2, Bits: 1}, bit)
		wantUnchanged(t, api.CodeState{Lengths: example(), Bits: -1}, bit)
		wantUnchanged(t, api.CodeState{Lengths: steps(0), Code: 1<<15 - 1, Bits: 15}, bit)
	}
}

// All states that are not valid, of up to 15 bits.
func TestStepOfAllInvalidStates(t *testing.T) {
	for _, l := range []api.Lengths{example(), {0: 1, last: 1}, evenly(8, 256), steps(100), nineAndTen()} {
		parts := partsOf(l)
		for bits := range 16 {
			for code := range 1 << bits {
				if !parts[digitsOf(code, bits)] {
					wantUnchanged(t, api.CodeState{Lengths: l, Code: code, Bits: bits}, code&1)
				}
			}
		}
	}
}

// P12.2: Quick

// quickOf returns the table by the definition.
func quickOf(l api.Lengths) [512]api.Entry {
	codes := symbolsOf(l)
	var table [512]api.Entry
	for i := range table {
		digits := digitsOf(i, 9)
		for length := 1; length <= 9; length++ {
			if symbol, ok := codes[digits[:length]]; ok {
				table[i] = api.Entry{Symbol: symbol, Bits: length}
			}
		}
	}
	return table
}

func wantQuick(t *testing.T, l api.Lengths, from, to int, want api.Entry) {
	t.Helper()
	table, e := prefixdec.Quick(l)
	for i := from; i <= to; i++ {
		if table[i] != want || e != api.OK {
			t.Errorf("Quick(%v) at %d: %v, %d, want %v", shown(l), i, table[i], e, want)
		}
	}
}

func TestQuickOfTheExample(t *testing.T) {
	wantQuick(t, example(), 0, 255, api.Entry{Symbol: 0, Bits: 1})
	wantQuick(t, example(), 256, 383, api.Entry{Symbol: 1, Bits: 2})
	wantQuick(t, example(), 384, 511, api.Entry{Symbol: 257, Bits: 2})
}

func TestQuickOfTwoSymbols(t *testing.T) {
	for _, s := range []int{0, 1, 100, 255, 256} {
		l := lengthsAt(map[int]uint8{s: 1, last: 1})
		wantQuick(t, l, 0, 255, api.Entry{Symbol: s, Bits: 1})
		wantQuick(t, l, 256, 511, api.Entry{Symbol: last, Bits: 1})
	}
}

func TestQuickOfCodesOfOneLength(t *testing.T) {
	for length := 1; length <= 8; length++ {
		many := 512 >> length
		for i := range 1 << length {
			wantQuick(t, evenly(uint8(length), 1<<length), i*many, i*many+many-1, api.Entry{Symbol: api.Symbols - 1<<length + i, Bits: length})
		}
	}
}

func TestQuickOfCodesOfNineAndTenBits(t *testing.T) {
	l := nineAndTen()
	wantQuick(t, l, 0, 255, api.Entry{Symbol: 0, Bits: 1})
	for i := 256; i <= 354; i++ {
		wantQuick(t, l, i, i, api.Entry{Symbol: i - 255, Bits: 9})
	}
	for i := 355; i <= 510; i++ {
		wantQuick(t, l, i, i, api.Entry{Symbol: i - 254, Bits: 9})
	}
	wantQuick(t, l, 511, 511, api.Entry{})
}

// Codes of 1 to 9 bits have entries, and those of 10 to 15 bits have none.
func TestQuickOfCodesOfEachLength(t *testing.T) {
	for _, first := range []int{0, 100} {
		l := steps(first)
		for i := range 9 {
			wantQuick(t, l, 512-512>>i, 511-256>>i, api.Entry{Symbol: first + i, Bits: i + 1})
		}
		wantQuick(t, l, 511, 511, api.Entry{})
	}
	l := full()
	wantQuick(t, l, 508, 508, api.Entry{Symbol: 0, Bits: 9})
	wantQuick(t, l, 511, 511, api.Entry{Symbol: last, Bits: 9})
}

// Codes of more than 9 bits may take a quarter of the numbers.
func TestQuickOfManyLongCodes(t *testing.T) {
	l := manyLong()
	wantQuick(t, l, 0, 255, api.Entry{Symbol: 0, Bits: 1})
	wantQuick(t, l, 256, 383, api.Entry{Symbol: 1, Bits: 2})
	wantQuick(t, l, 384, 511, api.Entry{})
}

// Only where codes are long do numbers have no entry, and then the last ones.
func TestQuickHasNoEntryForLongCodes(t *testing.T) {
	for _, l := range tables() {
		table, _ := prefixdec.Quick(l)
		first := slices.Index(table[:], api.Entry{})
		if (first >= 0) != (slices.Max(l[:]) > 9) {
			t.Errorf("Quick(%v): the first number without an entry is %d", shown(l), first)
		}
		if first >= 0 && slices.ContainsFunc(table[first:], func(entry api.Entry) bool { return entry != api.Entry{} }) {
			t.Errorf("Quick(%v): entries behind %d, which has none", shown(l), first)
		}
	}
}

func TestQuickFollowsTheDefinition(t *testing.T) {
	for _, l := range tables() {
		table, e := prefixdec.Quick(l)
		if want := quickOf(l); table != want || e != api.OK {
			t.Errorf("Quick(%v): %v, %d, want %v", shown(l), table, e, want)
		}
	}
}

func TestQuickOfOtherLengths(t *testing.T) {
	for _, l := range others() {
		if table, e := prefixdec.Quick(l); table != ([512]api.Entry{}) || e != api.ErrArg {
			t.Errorf("Quick(%v): %v, %d, want ErrArg", shown(l), table, e)
		}
	}
}

// P12.3

func TestAllOfTheExample(t *testing.T) {
	wantAll(t, example(), 3, bitsOf("10011"), []int{1, 0, 257}, 5)
	wantAll(t, example(), 2, bitsOf("10011"), []int{1, 0}, 3)
	wantAll(t, example(), 1, bitsOf("10011"), []int{1}, 2)
	wantAll(t, example(), 0, bitsOf("10011"), nil, 0)
	wantAllError(t, example(), 4, bitsOf("10011"), api.ErrShort)
	wantAllError(t, example(), 3, bitsOf("1001"), api.ErrShort)
}

func TestAllOfOrdinaryBits(t *testing.T) {
	wantAll(t, api.Lengths{0: 3, 1: 3, 2: 2, last: 1}, 3, bitsOf("100110"), []int{2, last, 0}, 6)
	wantAll(t, api.Lengths{0: 3, 1: 3, 2: 2, last: 1}, 4, bitsOf("1111101110"), []int{1, 0, 1, last}, 10)
	wantAll(t, api.Lengths{0: 1, last: 1}, 8, bitsOf("10100101"), []int{last, 0, last, 0, 0, last, 0, last}, 8)
	wantAll(t, evenly(2, 4), 5, bitsOf("0001101100"), []int{254, 255, 256, 257, 254}, 10)
	wantAll(t, evenly(8, 256), 3, bitsOf("111111110000000000000001"), []int{257, 2, 3}, 24)
	wantAll(t, nineAndTen(), 5, bitsOf("1111111111"+"111111110"+"1111111110"+"0"+"100000000"), []int{last, 256, 100, 0, 1}, 39)
	wantAll(t, steps(0), 4, bitsOf("111111111111111"+"111111111111110"+"0"+"111111111111111"), []int{last, 14, 0, last}, 46)
}

func TestAllOfOneSymbol(t *testing.T) {
	for _, l := range tables() {
		for s, code := range codesOf(l) {
			b := bitsOf(code)
			wantAll(t, l, 1, b, []int{s}, len(b))
			wantAllError(t, l, 1, b[:len(b)-1], api.ErrShort)
			wantAllError(t, l, 2, b, api.ErrShort)
		}
	}
}

func TestAllOfNoSymbols(t *testing.T) {
	for _, l := range tables() {
		for _, b := range [][]int{nil, {}, {0}, {1}, {0, 1, 1, 0}, {2}, {-1}, {1 << 32, 0, 1}, {math.MinInt}, make([]int, 3, 7)} {
			wantAll(t, l, 0, b, nil, 0)
		}
	}
	for _, bit := range notBits {
		wantAll(t, example(), 0, []int{bit}, nil, 0)
		wantAll(t, example(), 0, []int{bit, bit, 0}, nil, 0)
	}
}

func TestAllOfNoBits(t *testing.T) {
	for _, l := range tables() {
		wantAll(t, l, 0, nil, nil, 0)
		for _, many := range []int{1, 2, 3, 255, 256, 1 << 16, 1 << 31, 1 << 32, 1<<32 + 1, 1 << 62, math.MaxInt} {
			wantAllError(t, l, many, nil, api.ErrShort)
			wantAllError(t, l, many, []int{}, api.ErrShort)
		}
	}
}

// However many symbols are asked for, it is the bits that are too few.
func TestAllOfMoreSymbolsThanThereAre(t *testing.T) {
	d := dice(4)
	for _, l := range tables() {
		symbols := d.symbols(l, 5)
		b := spelt(l, symbols...)
		wantAll(t, l, 5, b, symbols, len(b))
		for _, many := range []int{6, 7, 100, 1 << 31, 1<<31 + 5, 1 << 32, 1<<32 + 5, 1<<40 + 5, 1<<62 + 5, math.MaxInt - 1, math.MaxInt} {
			wantAllError(t, l, many, b, api.ErrShort)
		}
	}
}

func TestAllOfOtherLengths(t *testing.T) {
	for _, l := range others() {
		for _, many := range []int{0, 1, 2, 1 << 40, -1, math.MinInt} {
			for _, b := range [][]int{nil, {0}, {1}, {0, 0, 0, 0}, {1, 1, 1, 1}, {2}, {0, 2}, make([]int, 40)} {
				wantAllError(t, l, many, b, api.ErrArg)
			}
		}
	}
}

func TestAllOfLessThanNoSymbols(t *testing.T) {
	for _, l := range chosen() {
		for _, many := range negative {
			for _, b := range [][]int{nil, {0}, {1}, {0, 0, 0, 0}, {1, 1, 1, 1}, {2}, make([]int, 40)} {
				wantAllError(t, l, many, b, api.ErrArg)
			}
		}
	}
}

// Bits that end within a code, or before the next one.
func TestAllOfBitsThatEnd(t *testing.T) {
	d := dice(5)
	for _, l := range tables() {
		symbols := d.symbols(l, 10)
		b := spelt(l, symbols...)
		for many := range len(symbols) + 1 {
			n := len(spelt(l, symbols[:many]...))
			for end := range len(b) + 1 {
				if end < n {
					wantAllError(t, l, many, b[:end], api.ErrShort)
				} else {
					wantAll(t, l, many, b[:end], symbols[:many], n)
				}
			}
		}
	}
}

// The first error in the order of the bits is the wrong bit if it stands before their end, and it is none behind the last code.
func TestAllOfAWrongBitAtEachPlace(t *testing.T) {
	d := dice(6)
	for _, l := range tables() {
		symbols := d.symbols(l, 6)
		b := spelt(l, symbols...)
		n := len(spelt(l, symbols[:3]...))
		for at := range b {
			wrong := slices.Clone(b)
			wrong[at] = notBits[d.roll(len(notBits))]
			if at < n {
				wantAllError(t, l, 3, wrong, api.ErrArg)
				wantAllError(t, l, 3, wrong[:at+1], api.ErrArg)
				wantAllError(t, l, 3, wrong[:at], api.ErrShort)
			} else {
				wantAll(t, l, 3, wrong, symbols[:3], n)
				wantAll(t, l, 3, wrong[:at+1], symbols[:3], n)
			}
			wantAllError(t, l, 6, wrong, api.ErrArg)
			wantAllError(t, l, 7, wrong, api.ErrArg)
			wantAllError(t, l, math.MaxInt, wrong, api.ErrArg)
			// A second wrong bit, behind the first, changes nothing.
			wrong[at+d.roll(len(b)-at)] = -1
			wantAllError(t, l, 7, wrong, api.ErrArg)
		}
	}
}

func TestAllOfEachWrongBit(t *testing.T) {
	for _, bit := range notBits {
		wantAllError(t, example(), 1, []int{bit}, api.ErrArg)
		wantAllError(t, example(), 1, []int{1, bit}, api.ErrArg)
		wantAllError(t, example(), 2, []int{0, bit}, api.ErrArg)
		wantAllError(t, example(), 2, []int{0, bit, 0}, api.ErrArg)
		wantAll(t, example(), 1, []int{0, bit}, []int{0}, 1)
		wantAll(t, example(), 2, []int{0, 1, 1, bit, 0}, []int{0, 257}, 3)
		wantAllError(t, steps(0), 1, append(bitsOf(strings.Repeat("1", 14)), bit), api.ErrArg)
		wantAll(t, steps(0), 1, append(bitsOf(strings.Repeat("1", 15)), bit), []int{257}, 15)
	}
}

func TestAllTakesNoNoticeOfWhatFollows(t *testing.T) {
	d := dice(7)
	for _, l := range tables() {
		symbols := d.symbols(l, d.roll(12))
		b := spelt(l, symbols...)
		for _, behind := range [][]int{{0}, {1}, {2}, {-1}, make([]int, 40), d.bits(90), {0, 1, 1 << 32, 0}, b} {
			wantAll(t, l, len(symbols), slices.Concat(b, behind), symbols, len(b))
		}
	}
}

func TestAllOfAllShortSequences(t *testing.T) {
	for _, l := range []api.Lengths{example(), {0: 1, last: 1}, {0: 3, 1: 3, 2: 2, last: 1}, evenly(2, 4), evenly(3, 8), steps(50), {0: 1, 1: 3, 2: 3, 3: 3, last: 3}} {
		codes := symbolsOf(l)
		for length := range 7 {
			sequence := make([]int, length)
			for pattern := range int(math.Pow(3, float64(length))) {
				for i := range sequence {
					sequence[i] = pattern % 3
					pattern /= 3
				}
				for many := range length + 2 {
					wantAllByDefinition(t, l, codes, many, sequence)
				}
			}
		}
	}
}

func TestAllFollowsTheDefinition(t *testing.T) {
	d := dice(8)
	for _, l := range tables() {
		codes := symbolsOf(l)
		for range 20 {
			b := d.bits(d.roll(90))
			for range d.roll(3) {
				if len(b) > 0 && d.roll(2) == 0 {
					b[d.roll(len(b))] = notBits[d.roll(len(notBits))]
				}
			}
			wantAllByDefinition(t, l, codes, d.roll(25), b)
		}
	}
}

func TestAllOfManySymbols(t *testing.T) {
	d := dice(9)
	for _, l := range []api.Lengths{example(), full(), nineAndTen(), steps(100), d.complete(200)} {
		for _, many := range []int{1000, 70000} {
			symbols := d.symbols(l, many)
			b := spelt(l, symbols...)
			wantAll(t, l, many, b, symbols, len(b))
			wantAllError(t, l, many, b[:len(b)-1], api.ErrShort)
			wantAllError(t, l, many+1, b, api.ErrShort)
			b[len(b)-1] = 2
			wantAllError(t, l, many, b, api.ErrArg)
		}
	}
}

// P12.4

// wantBound asks for a symbol after at most 15 bits, and for no other one than its bits are the code of.
func wantBound(t *testing.T, l api.Lengths, codes map[int]string, b []int) {
	t.Helper()
	c, _ := prefixdec.New(l)
	for i, bit := range b[:api.MaxCode] {
		wantValid(t, c, true)
		o, symbol, done := prefixdec.Step(c, bit)
		if done {
			if code := codes[symbol]; !slices.Equal(bitsOf(code), b[:i+1]) || o != (api.CodeState{Lengths: l}) {
				t.Errorf("%v: %d after %d, whose code is %s", shown(l), symbol, b[:i+1], code)
			}
			wantAll(t, l, 1, b, []int{symbol}, i+1)
			return
		}
		c = o
	}
	t.Errorf("%v: no symbol after %d", shown(l), b[:api.MaxCode])
}

func TestASymbolIsDecodedAfterFifteenBits(t *testing.T) {
	d := dice(10)
	for _, l := range tables() {
		codes := codesOf(l)
		for range 40 {
			wantBound(t, l, codes, d.bits(15))
		}
		for ones := range 16 {
			wantBound(t, l, codes, bitsOf(strings.Repeat("1", ones)+strings.Repeat("0", 15-ones)))
			wantBound(t, l, codes, bitsOf(strings.Repeat("0", 15-ones)+strings.Repeat("1", ones)))
		}
	}
}

func TestASymbolIsDecodedFromAllFifteenBits(t *testing.T) {
	for _, l := range []api.Lengths{example(), steps(0), nineAndTen()} {
		codes := codesOf(l)
		for number := range 1 << 15 {
			wantBound(t, l, codes, bitsOf(digitsOf(number, 15)))
		}
	}
}

// From every valid state, what is lacking to 15 bits is enough.
func TestASymbolIsDecodedFromEachState(t *testing.T) {
	for _, l := range chosen() {
		for part := range partsOf(l) {
			for bit := range 2 {
				c := stateOf(l, part)
				for done := false; !done; {
					if c.Bits >= api.MaxCode {
						t.Fatalf("no symbol from %s on", showState(stateOf(l, part)))
					}
					c, _, done = prefixdec.Step(c, bit)
				}
			}
		}
	}
}

// bitsOfBytes returns the first bits of bytes.
func bitsOfBytes(b []byte, many int) []int {
	var bits []int
	for i := range many {
		bits = append(bits, int(b[i/8]>>(7-i%8)&1))
	}
	return bits
}

func TestSymbolsAreDecodedAsTheyWere(t *testing.T) {
	d := dice(11)
	for _, l := range tables() {
		symbols := d.symbols(l, d.roll(100))
		encoded, many, e := prefixenc.Spell(l, symbols...)
		if e != api.OK {
			t.Fatal(e)
		}
		b := bitsOfBytes(encoded, many)
		wantAll(t, l, len(symbols), b, symbols, many)
		wantAllError(t, l, len(symbols)+1, b, api.ErrShort)
		c, _ := prefixdec.New(l)
		var decoded []int
		for _, bit := range b {
			o, symbol, done := prefixdec.Step(c, bit)
			if done {
				decoded = append(decoded, symbol)
			}
			c = o
		}
		if !slices.Equal(decoded, symbols) || c != (api.CodeState{Lengths: l}) {
			t.Errorf("%v: %s, %s, want %s", shown(l), brief(decoded), showState(c), brief(symbols))
		}
	}
}

func TestDecodedSymbolsAreEncodedAsTheyWere(t *testing.T) {
	d := dice(12)
	for _, l := range tables() {
		b := d.bits(15 * 20)
		symbols, n, e := prefixdec.All(l, 20, b...)
		if len(symbols) != 20 || e != api.OK {
			t.Errorf("%v: %d, %d", shown(l), symbols, e)
		}
		encoded, many, e := prefixenc.Spell(l, symbols...)
		if e != api.OK || !slices.Equal(bitsOfBytes(encoded, many), b[:n]) {
			t.Errorf("%v: %d is encoded as %x, not as %d", shown(l), symbols, encoded, b[:n])
		}
	}
}

// quickByStep returns the entry that steps lead to.
func quickByStep(l api.Lengths, number int) api.Entry {
	c, _ := prefixdec.New(l)
	for i, bit := range bitsOf(digitsOf(number, 9)) {
		o, symbol, done := prefixdec.Step(c, bit)
		if done {
			return api.Entry{Symbol: symbol, Bits: i + 1}
		}
		c = o
	}
	return api.Entry{}
}

func TestQuickAgreesWithStep(t *testing.T) {
	for _, l := range tables() {
		table, _ := prefixdec.Quick(l)
		for number, entry := range table {
			if want := quickByStep(l, number); entry != want {
				t.Errorf("Quick(%v) at %d: %v, and Step leads to %v", shown(l), number, entry, want)
			}
			symbols, n, e := prefixdec.All(l, 1, bitsOf(digitsOf(number, 9))...)
			if ok := e == api.OK; ok != (entry.Bits > 0) || ok && (symbols[0] != entry.Symbol || n != entry.Bits) {
				t.Errorf("Quick(%v) at %d: %v, and All leads to %d, %d, %d", shown(l), number, entry, symbols, n, e)
			}
		}
	}
}

// Memory

// Neither what arguments hold is changed nor what their memory has behind it.
func TestArgumentsStayAsTheyWere(t *testing.T) {
	d := dice(13)
	for _, l := range append(chosen(), others()...) {
		held := append(d.bits(60), 7, 8, 9, 10)
		before := slices.Clone(held)
		for _, many := range []int{-1, 0, 1, 2, 3, 70} {
			for _, length := range []int{0, 1, 2, 30, 60, 62} {
				prefixdec.All(l, many, held[:length]...)
			}
		}
		if !slices.Equal(held, before) {
			t.Errorf("%v: %d is now %d", shown(l), before, held)
		}
		c := api.CodeState{Lengths: l, Code: 1, Bits: 1}
		prefixdec.Step(c, 0)
		prefixdec.Valid(c)
		if c != (api.CodeState{Lengths: l, Code: 1, Bits: 1}) {
			t.Errorf("the state is now %s", showState(c))
		}
	}
}

func TestAllStopsAtTheLengthNotTheCapacity(t *testing.T) {
	b := bitsOf("10011")
	wantAll(t, example(), 2, b[:3], []int{1, 0}, 3)
	wantAllError(t, example(), 3, b[:3], api.ErrShort)
	wantAllError(t, example(), 3, b[:4], api.ErrShort)
	wantAllError(t, example(), 1, b[:0], api.ErrShort)
}

func TestAllReturnsNewMemory(t *testing.T) {
	d := dice(14)
	for _, l := range chosen() {
		symbols := d.symbols(l, 21)
		b := spelt(l, symbols...)
		first, _, _ := prefixdec.All(l, 21, b...)
		second, _, _ := prefixdec.All(l, 21, b...)
		for i := range first[:cap(first)] {
			first[:cap(first)][i] = -7
		}
		_ = append(first, 9)
		if !slices.Equal(b, spelt(l, symbols...)) {
			t.Errorf("%v: the result is the argument's memory", shown(l))
		}
		clear(b)
		if !slices.Equal(second, symbols) {
			t.Errorf("%v: the results share memory: %d, want %d", shown(l), second, symbols)
		}
		wantAll(t, l, 21, spelt(l, symbols...), symbols, len(b))
	}
}

func TestQuickReturnsNewMemory(t *testing.T) {
	for _, l := range chosen() {
		first, _ := prefixdec.Quick(l)
		clear(first[:])
		if second, e := prefixdec.Quick(l); second != quickOf(l) || e != api.OK {
			t.Errorf("Quick(%v): %v, %d", shown(l), second, e)
		}
	}
}

// Calls do not depend on earlier ones, nor on those with other lengths.
func TestCallsAreRepeatable(t *testing.T) {
	for range 3 {
		wantAll(t, example(), 3, bitsOf("10011"), []int{1, 0, 257}, 5)
		wantAllError(t, example(), 3, bitsOf("1001"), api.ErrShort)
		wantStep(t, stateOf(example(), "1"), 1, stateOf(example(), ""), 257, true)
		wantStep(t, stateOf(steps(0), "1"), 1, stateOf(steps(0), "11"), 0, false)
		wantInvalid(t, stateOf(evenly(1, 2), "1"))
		wantQuick(t, evenly(1, 2), 0, 255, api.Entry{Symbol: 256, Bits: 1})
		wantQuick(t, example(), 384, 511, api.Entry{Symbol: 257, Bits: 2})
		wantAll(t, steps(0), 2, bitsOf("1100"), []int{2, 0}, 4)
	}
}
