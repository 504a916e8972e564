package varint_test

import (
	"bytes"
	"math"
	"slices"
	"testing"

	"winepress/api"
	"winepress/varint"
)

// wild holds numbers that are never valid; the low bits of some would be.
var wild = []int{
	math.MinInt, math.MinInt + 1, math.MinInt + 300, -1 << 62, -1<<35 + 300, -1 << 35, -1 << 32, -1<<32 + 5, -1 << 31, -1 << 28, -16384, -300, -129, -128, -127, -2, -1,
	api.MaxTotal + 1, api.MaxTotal + 2, 1<<32 - 1, 1 << 32, 1<<32 + 5, 1<<34 - 1, 1 << 35, 1<<35 + 300, 1 << 42, 1<<62 + 1, math.MaxInt - 127, math.MaxInt - 1, math.MaxInt,
}

// edges holds the numbers at which the encoding grows and those next to them, the ends, and some with groups of zeros or of ones.
var edges = []int{
	0, 1, 2, 5, 63, 64, 126, 127, 128, 129, 255, 256, 300, 16382, 16383, 16384, 16385, 1<<21 - 2, 1<<21 - 1, 1 << 21, 1<<21 + 1,
	1<<28 - 2, 1<<28 - 1, 1 << 28, 1<<28 + 1, 1<<21 | 127, 127 << 7, 127 << 14, 127 << 21, 7 << 28, 1<<31 - 128, 1 << 30, api.MaxTotal - 1, api.MaxTotal,
}

// numbers returns all the small numbers, the edges, and some of every size in between.
func numbers() []int {
	all := slices.Clone(edges)
	for n := range 70000 {
		all = append(all, n)
	}
	for n := 70000; n <= api.MaxTotal; n += 1 + n/997 {
		all = append(all, n)
	}
	return all
}

// encoded returns the encoding of a valid number by its definition, from the last group on.
func encoded(n int) []byte {
	b := []byte{byte(n % 128)}
	for n /= 128; n > 0; n /= 128 {
		b = append(b, byte(128+n%128))
	}
	slices.Reverse(b)
	return b
}

// power returns 128 to the power of many.
func power(many int) int {
	n := 1
	for range many {
		n *= 128
	}
	return n
}

// isInProgress follows the definition of a valid number in progress.
func isInProgress(v api.Varint) bool {
	if v.Many == 0 {
		return v.Value == 0
	}
	return v.Many >= 1 && v.Many <= 4 && v.Value >= power(v.Many-1) && v.Value < power(v.Many)
}

// progress returns valid numbers in progress: the least, the greatest and others of each length, and where the next group can be too much.
func progress() []api.Varint {
	all := []api.Varint{{}}
	for many := 1; many <= 4; many++ {
		least, most := power(many-1), power(many)-1
		for _, value := range []int{least, least + 1, least + (most-least)/3, most - least, most - 1, most} {
			all = append(all, api.Varint{Value: value, Many: many})
		}
	}
	for value := 1; value < 128; value++ {
		all = append(all, api.Varint{Value: value, Many: 1})
	}
	for _, value := range []int{1<<24 - 2, 1<<24 - 1, 1 << 24, 1<<24 + 1, 1 << 25, 1 << 27} {
		all = append(all, api.Varint{Value: value, Many: 4})
	}
	return all
}

// wrong returns numbers in progress that are not valid: just outside each length, and wild.
func wrong() []api.Varint {
	var all []api.Varint
	for _, value := range []int{1, 2, 127, 128, -1, 1 << 28, api.MaxTotal} {
		all = append(all, api.Varint{Value: value})
	}
	for many := 1; many <= 4; many++ {
		for _, value := range []int{0, power(many-1) - 1, power(many), power(many) + 1, -power(many - 1), 1 << 28, api.MaxTotal} {
			all = append(all, api.Varint{Value: value, Many: many})
		}
		for _, value := range wild {
			all = append(all, api.Varint{Value: value, Many: many})
		}
	}
	for _, many := range append([]int{5, 6, 7, 8, 9, 10, 63, 64, 65, 128}, wild...) {
		for _, value := range append(wild, edges...) {
			all = append(all, api.Varint{Value: value, Many: many})
		}
	}
	for _, value := range wild {
		all = append(all, api.Varint{Value: value})
	}
	return all
}

func wantPut(t *testing.T, n int, want []byte) {
	t.Helper()
	if b, e := varint.Put(n); !bytes.Equal(b, want) || e != api.OK {
		t.Errorf("Put(%d): %d, %d, want %d", n, b, e, want)
	}
	if many := varint.Size(n); many != len(want) {
		t.Errorf("Size(%d): %d, want %d", n, many, len(want))
	}
}

func wantValid(t *testing.T, v api.Varint, want bool) {
	t.Helper()
	if varint.Valid(v) != want {
		t.Errorf("Valid(%+v): %v", v, !want)
	}
}

func wantStep(t *testing.T, v api.Varint, c byte, want api.Varint, is bool) {
	t.Helper()
	if o, done, e := varint.Step(v, c); o != want || done != is || e != api.OK {
		t.Errorf("Step(%+v, %d): %+v, %v, %d, want %+v, %v", v, c, o, done, e, want, is)
	}
}

func wantStepError(t *testing.T, v api.Varint, c byte, want api.Errno) {
	t.Helper()
	if o, done, e := varint.Step(v, c); o != (api.Varint{}) || done || e != want {
		t.Errorf("Step(%+v, %d): %+v, %v, %d, want error %d and nothing else", v, c, o, done, e, want)
	}
}

func wantTake(t *testing.T, b []byte, want int, rest []byte) {
	t.Helper()
	if n, r, e := varint.Take(b); n != want || !bytes.Equal(r, rest) || e != api.OK {
		t.Errorf("Take(%d): %d, %d, %d, want %d, %d", b, n, r, e, want, rest)
	}
}

func wantTakeError(t *testing.T, b []byte, want api.Errno) {
	t.Helper()
	if n, r, e := varint.Take(b); n != 0 || len(r) != 0 || e != want {
		t.Errorf("Take(%d): %d, %d, %d, want error %d and nothing else", b, n, r, e, want)
	}
}

// P5.1: Put and Size

func TestPutOfTheExamples(t *testing.T) {
	wantPut(t, 5, []byte{5})
	wantPut(t, 300, []byte{130, 44})
	wantPut(t, 0, []byte{0})
}

func TestPutAtTheEdges(t *testing.T) {
	wantPut(t, 1, []byte{1})
	wantPut(t, 126, []byte{126})
	wantPut(t, 127, []byte{127})
	wantPut(t, 128, []byte{129, 0})
	wantPut(t, 129, []byte{129, 1})
	wantPut(t, 1<<14-1, []byte{255, 127})
	wantPut(t, 1<<14, []byte{129, 128, 0})
	wantPut(t, 1<<21-1, []byte{255, 255, 127})
	wantPut(t, 1<<21, []byte{129, 128, 128, 0})
	wantPut(t, 1<<28-1, []byte{255, 255, 255, 127})
	wantPut(t, 1<<28, []byte{129, 128, 128, 128, 0})
	wantPut(t, 1<<28+1, []byte{129, 128, 128, 128, 1})
	wantPut(t, api.MaxTotal-1, []byte{135, 255, 255, 255, 126})
	wantPut(t, api.MaxTotal, []byte{135, 255, 255, 255, 127})
}

func TestPutFollowsTheDefinition(t *testing.T) {
	for _, n := range numbers() {
		wantPut(t, n, encoded(n))
	}
}

func TestPutOfEveryBit(t *testing.T) {
	for bit := range 31 {
		wantPut(t, 1<<bit, encoded(1<<bit))
		wantPut(t, 1<<bit-1, encoded(1<<bit-1))
		wantPut(t, api.MaxTotal-1<<bit, encoded(api.MaxTotal-1<<bit))
	}
}

func TestPutRefusesNumbers(t *testing.T) {
	for _, n := range wild {
		if b, e := varint.Put(n); len(b) != 0 || e != api.ErrArg {
			t.Errorf("Put(%d): %d, %d", n, b, e)
		}
		if many := varint.Size(n); many != 0 {
			t.Errorf("Size(%d): %d", n, many)
		}
	}
}

func TestPutReturnsNewMemory(t *testing.T) {
	for _, n := range edges {
		first, _ := varint.Put(n)
		second, _ := varint.Put(n)
		clear(first[:cap(first)])
		_ = append(first, 99)
		if !bytes.Equal(second, encoded(n)) {
			t.Errorf("%d: the results share memory: %d", n, second)
		}
		wantPut(t, n, encoded(n))
	}
}

// P5.1: Valid

func TestValidOfNumbersInProgress(t *testing.T) {
	for _, v := range progress() {
		wantValid(t, v, true)
	}
}

func TestValidAtTheEdges(t *testing.T) {
	wantValid(t, api.Varint{}, true)
	wantValid(t, api.Varint{Value: 1}, false)
	wantValid(t, api.Varint{Value: -1}, false)
	for many, ends := range map[int][2]int{1: {1, 127}, 2: {128, 1<<14 - 1}, 3: {1 << 14, 1<<21 - 1}, 4: {1 << 21, 1<<28 - 1}} {
		wantValid(t, api.Varint{Value: ends[0] - 1, Many: many}, false)
		wantValid(t, api.Varint{Value: ends[0], Many: many}, true)
		wantValid(t, api.Varint{Value: ends[1], Many: many}, true)
		wantValid(t, api.Varint{Value: ends[1] + 1, Many: many}, false)
	}
	wantValid(t, api.Varint{Value: 1 << 28, Many: 5}, false)
	wantValid(t, api.Varint{Value: api.MaxTotal, Many: 5}, false)
	wantValid(t, api.Varint{Many: 5}, false)
	wantValid(t, api.Varint{Many: -1}, false)
}

func TestValidOfWrongNumbers(t *testing.T) {
	for _, v := range wrong() {
		wantValid(t, v, false)
	}
}

func TestValidFollowsTheDefinition(t *testing.T) {
	for many := -3; many < 12; many++ {
		for _, value := range append(wild, edges...) {
			v := api.Varint{Value: value, Many: many}
			wantValid(t, v, isInProgress(v))
		}
		for value := -300; value < 20000; value++ {
			v := api.Varint{Value: value, Many: many}
			wantValid(t, v, isInProgress(v))
		}
	}
}

// P5.2

func TestStepAtTheEdges(t *testing.T) {
	wantStep(t, api.Varint{}, 0, api.Varint{Value: 0, Many: 1}, true)
	wantStep(t, api.Varint{}, 1, api.Varint{Value: 1, Many: 1}, true)
	wantStep(t, api.Varint{}, 127, api.Varint{Value: 127, Many: 1}, true)
	wantStepError(t, api.Varint{}, 128, api.ErrForm)
	wantStep(t, api.Varint{}, 129, api.Varint{Value: 1, Many: 1}, false)
	wantStep(t, api.Varint{}, 130, api.Varint{Value: 2, Many: 1}, false)
	wantStep(t, api.Varint{}, 255, api.Varint{Value: 127, Many: 1}, false)
	wantStep(t, api.Varint{Value: 2, Many: 1}, 44, api.Varint{Value: 300, Many: 2}, true)
	wantStep(t, api.Varint{Value: 1, Many: 1}, 128, api.Varint{Value: 128, Many: 2}, false)
	wantStep(t, api.Varint{Value: 1, Many: 1}, 0, api.Varint{Value: 128, Many: 2}, true)
	wantStep(t, api.Varint{Value: 128, Many: 2}, 128, api.Varint{Value: 1 << 14, Many: 3}, false)
	wantStep(t, api.Varint{Value: 1 << 14, Many: 3}, 128, api.Varint{Value: 1 << 21, Many: 4}, false)
	wantStep(t, api.Varint{Value: 1<<21 - 1, Many: 3}, 255, api.Varint{Value: 1<<28 - 1, Many: 4}, false)
}

func TestStepToTheFifthByte(t *testing.T) {
	wantStep(t, api.Varint{Value: 1 << 21, Many: 4}, 0, api.Varint{Value: 1 << 28, Many: 5}, true)
	wantStep(t, api.Varint{Value: 1 << 21, Many: 4}, 127, api.Varint{Value: 1<<28 + 127, Many: 5}, true)
	wantStep(t, api.Varint{Value: 1<<24 - 1, Many: 4}, 0, api.Varint{Value: api.MaxTotal - 127, Many: 5}, true)
	wantStep(t, api.Varint{Value: 1<<24 - 1, Many: 4}, 127, api.Varint{Value: api.MaxTotal, Many: 5}, true)
	for _, value := range []int{1 << 21, 1<<24 - 1, 1 << 24, 1<<28 - 1} {
		for _, c := range []byte{128, 129, 255} {
			wantStepError(t, api.Varint{Value: value, Many: 4}, c, api.ErrGreat)
		}
	}
	for _, value := range []int{1 << 24, 1<<24 + 1, 1 << 25, 1 << 27, 1<<28 - 1} {
		for _, c := range []byte{0, 1, 127} {
			wantStepError(t, api.Varint{Value: value, Many: 4}, c, api.ErrGreat)
		}
	}
}

func TestStepOfEveryByte(t *testing.T) {
	for _, v := range progress() {
		for c := range 256 {
			value := v.Value*128 + c%128
			switch {
			case v.Many == 0 && c == 128:
				wantStepError(t, v, 128, api.ErrForm)
			case value > api.MaxTotal || v.Many == 4 && c >= 128:
				wantStepError(t, v, byte(c), api.ErrGreat)
			default:
				wantStep(t, v, byte(c), api.Varint{Value: value, Many: v.Many + 1}, c < 128)
			}
		}
	}
}

func TestStepRefusesWrongNumbers(t *testing.T) {
	for _, v := range wrong() {
		for _, c := range []byte{0, 1, 5, 127, 128, 129, 255} {
			wantStepError(t, v, c, api.ErrArg)
		}
	}
}

// A wrong number is told before the byte 128 at its start, and before what is too great.
func TestStepReturnsTheFirstError(t *testing.T) {
	wantStepError(t, api.Varint{Value: 1}, 128, api.ErrArg)
	wantStepError(t, api.Varint{Value: -1}, 128, api.ErrArg)
	wantStepError(t, api.Varint{Value: api.MaxTotal}, 128, api.ErrArg)
	wantStepError(t, api.Varint{Value: 1 << 28, Many: 4}, 127, api.ErrArg)
	wantStepError(t, api.Varint{Value: 1<<21 - 1, Many: 4}, 128, api.ErrArg)
	wantStepError(t, api.Varint{Value: 1 << 30, Many: 1}, 255, api.ErrArg)
	wantStepError(t, api.Varint{Value: api.MaxTotal, Many: 5}, 255, api.ErrArg)
}

func TestStepLeavesValidNumbersInProgress(t *testing.T) {
	for _, v := range progress() {
		for c := range 256 {
			o, done, e := varint.Step(v, byte(c))
			if e == api.OK && !done {
				wantValid(t, o, true)
			}
			if e == api.OK && done && varint.Size(o.Value) != o.Many {
				t.Errorf("Step(%+v, %d): %d groups, and Size is %d", v, c, o.Many, varint.Size(o.Value))
			}
		}
	}
}

// P5.3

func TestTakeOfTheExample(t *testing.T) {
	wantTakeError(t, []byte{128, 5}, api.ErrForm)
	wantTake(t, []byte{130, 44}, 300, nil)
	wantTake(t, []byte{130, 44, 7, 130}, 300, []byte{7, 130})
}

func TestTakeOfNothing(t *testing.T) {
	wantTakeError(t, nil, api.ErrShort)
	wantTakeError(t, []byte{}, api.ErrShort)
	wantTakeError(t, []byte{130, 44}[:0], api.ErrShort)
}

func TestTakeWithoutTheLastByte(t *testing.T) {
	for _, n := range edges {
		b := encoded(n)
		for many := range len(b) {
			wantTakeError(t, b[:many], api.ErrShort)
			wantTakeError(t, slices.Clip(b[:many]), api.ErrShort)
		}
	}
	wantTakeError(t, []byte{255, 255, 255, 255}, api.ErrShort)
	wantTakeError(t, []byte{136, 128, 128, 128}, api.ErrShort)
}

func TestTakeOf128(t *testing.T) {
	wantTakeError(t, []byte{128}, api.ErrForm)
	wantTakeError(t, []byte{128, 0}, api.ErrForm)
	wantTakeError(t, []byte{128, 128, 128, 128, 128, 128}, api.ErrForm)
	wantTakeError(t, []byte{128, 255, 255, 255, 255}, api.ErrForm)
	wantTake(t, []byte{129, 128, 0}, 1<<14, nil)
	wantTake(t, []byte{129, 128, 128, 128, 0}, 1<<28, nil)
	wantTake(t, []byte{5, 128}, 5, []byte{128})
}

func TestTakeOfTheFifthByte(t *testing.T) {
	wantTake(t, []byte{129, 128, 128, 128, 0}, 1<<28, nil)
	wantTake(t, []byte{135, 255, 255, 255, 127}, api.MaxTotal, nil)
	wantTake(t, []byte{135, 255, 255, 255, 127, 128}, api.MaxTotal, []byte{128})
	wantTakeError(t, []byte{129, 128, 128, 128, 128}, api.ErrGreat)
	wantTakeError(t, []byte{129, 128, 128, 128, 128, 0}, api.ErrGreat)
	wantTakeError(t, []byte{135, 255, 255, 255, 255}, api.ErrGreat)
	wantTakeError(t, []byte{136, 128, 128, 128, 0}, api.ErrGreat)
	wantTakeError(t, []byte{136, 128, 128, 128, 0, 1, 2}, api.ErrGreat)
	wantTakeError(t, []byte{255, 255, 255, 255, 127}, api.ErrGreat)
	wantTakeError(t, bytes.Repeat([]byte{255}, 300), api.ErrGreat)
}

// takeByDefinition reads a number in the words of the chapter.
func takeByDefinition(b []byte) (n int, rest []byte, e api.Errno) {
	for i, c := range b {
		if i == 0 && c == 128 {
			return 0, nil, api.ErrForm
		}
		n = 128*n + int(c)%128
		if n > api.MaxTotal || i == 4 && c >= 128 {
			return 0, nil, api.ErrGreat
		}
		if c < 128 {
			return n, b[i+1:], api.OK
		}
	}
	return 0, nil, api.ErrShort
}

func wantTakeByDefinition(t *testing.T, b []byte) {
	t.Helper()
	n, rest, e := takeByDefinition(b)
	if e != api.OK {
		wantTakeError(t, b, e)
		return
	}
	wantTake(t, b, n, rest)
}

func TestTakeOfEveryShortInput(t *testing.T) {
	for first := range 256 {
		wantTakeByDefinition(t, []byte{byte(first)})
		for second := range 256 {
			wantTakeByDefinition(t, []byte{byte(first), byte(second)})
			wantTakeByDefinition(t, []byte{byte(first), byte(second), 0})
			wantTakeByDefinition(t, []byte{byte(first), byte(second), 255})
		}
	}
}

func TestTakeOfInputsOfNotableBytes(t *testing.T) {
	notable := []byte{0, 1, 127, 128, 129, 135, 136, 255}
	for many := range 7 {
		b := make([]byte, many)
		for pattern := range 1 << (3 * many) {
			for i := range b {
				b[i] = notable[pattern>>(3*i)&7]
			}
			wantTakeByDefinition(t, b)
		}
	}
}

func TestTakeAppliesStepInOrder(t *testing.T) {
	for _, b := range [][]byte{{5}, {128}, {130, 44, 1}, {255, 255, 255, 255, 127}, {135, 255, 255, 255, 127}, {129, 128, 128, 128, 128}, {129, 200}} {
		var v api.Varint
		want, done, at := api.ErrShort, false, 0
		for i, c := range b {
			v, done, want = varint.Step(v, c)
			at = i + 1
			if done || want != api.OK {
				break
			}
			want = api.ErrShort
		}
		if !done {
			wantTakeError(t, b, want)
			continue
		}
		wantTake(t, b, v.Value, b[at:])
	}
}

func TestTakeStopsAtTheLengthNotTheCapacity(t *testing.T) {
	b := []byte{130, 44, 7, 8, 9}
	wantTakeError(t, b[:1], api.ErrShort)
	wantTake(t, b[:2], 300, nil)
	wantTake(t, b[:3], 300, []byte{7})
}

func TestTakeReturnsNewMemory(t *testing.T) {
	b := []byte{130, 44, 1, 2, 3, 4, 5}
	_, first, _ := varint.Take(b)
	_, second, _ := varint.Take(b)
	clear(b)
	if !bytes.Equal(first, []byte{1, 2, 3, 4, 5}) {
		t.Errorf("the rest is now %d", first)
	}
	clear(first[:cap(first)])
	_ = append(first[:0], 99)
	if !bytes.Equal(second, []byte{1, 2, 3, 4, 5}) {
		t.Errorf("the rests share memory: %d", second)
	}
}

func TestTakeDoesNotChangeItsArgument(t *testing.T) {
	whole := []byte{130, 44, 1, 2, 3, 4, 5}
	want := slices.Clone(whole)
	for many := range len(whole) + 1 {
		_, rest, _ := varint.Take(whole[:many])
		_ = append(rest, 99, 99, 99)
		clear(rest[:cap(rest)])
		if !bytes.Equal(whole, want) {
			t.Fatalf("the memory of the argument is now %d", whole)
		}
	}
}

// P5.4

func TestTakeOfWhatPutReturns(t *testing.T) {
	behind := [][]byte{nil, {0}, {127}, {128}, {255, 255, 255, 255, 255}, encoded(300)}
	for _, n := range numbers() {
		b, e := varint.Put(n)
		if e != api.OK {
			t.Fatalf("Put(%d): %d", n, e)
		}
		for _, rest := range behind {
			wantTake(t, slices.Concat(b, rest), n, rest)
		}
	}
}

func TestTakeOfManyNumbers(t *testing.T) {
	var b []byte
	for _, n := range edges {
		b = append(b, encoded(n)...)
	}
	for _, want := range edges {
		n, rest, e := varint.Take(b)
		if n != want || e != api.OK {
			t.Fatalf("Take: %d, %d, want %d", n, e, want)
		}
		b = rest
	}
	wantTakeError(t, b, api.ErrShort)
}

// What is read is the only encoding of its number: putting the number gives the bytes that were read.
func TestTakeReadsOneEncodingPerNumber(t *testing.T) {
	firsts := []byte{0, 1, 64, 127, 128, 129, 135, 136, 200, 255}
	for _, first := range firsts {
		for _, second := range firsts {
			for _, fourth := range firsts {
				for last := range 256 {
					b := []byte{first, second, 128, fourth, byte(last), 3}
					n, rest, e := varint.Take(b)
					if e != api.OK {
						continue
					}
					wantPut(t, n, b[:len(b)-len(rest)])
				}
			}
		}
	}
}
