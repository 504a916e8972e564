package zerorun_test

import (
	"fmt"
	"math"
	"math/big"
	"math/bits"
	"regexp"
	"slices"
	"strings"
	"testing"

	"winepress/api"
	"winepress/zerorun"
)

const (
	a = api.RunA
	b = api.RunB
)

// below holds numbers under 0; the low bits of some are those of ordinary ones.
var below = []int{
	-1, -2, -3, -4, -127, -128, -254, -255, -256, -257, -511, -512, -1 << 16, -1<<16 + 1, -api.MaxTotal, -1<<31 - 1, -1 << 31, -1<<31 + 1, -1 << 32, -1<<32 + 1, -1<<32 + 5, -1 << 62, -1<<62 + 1, math.MinInt, math.MinInt + 1, math.MinInt + 5,
}

// above holds numbers over MaxTotal; the low bits of some are those of ordinary ones.
var above = []int{
	1 << 31, 1<<31 + 1, 1<<31 + 5, 1<<32 - 2, 1<<32 - 1, 1 << 32, 1<<32 + 1, 1<<32 + 5, 1 << 33, 1 << 40, 1<<40 + 1, 1 << 62, 1<<62 + 1, 1<<62 + 5, math.MaxInt - 5, math.MaxInt - 1, math.MaxInt,
}

// notDigits holds numbers that are neither RunA nor RunB.
var notDigits = slices.Concat([]int{2, 3, 4, 5, 7, 8, 31, 128, 255, 256, 257, 258, 512, 513, 1 << 16, 1<<16 + 1, api.MaxTotal - 1, api.MaxTotal}, below, above)

// notPlaces holds numbers that are no positions.
var notPlaces = slices.Concat([]int{256, 257, 258, 300, 511, 512, 513, 1<<16 - 1, 1 << 16, 1<<16 + 1, api.MaxTotal}, below, above)

// notSymbols holds numbers that are no symbols of positions; Eob is one of them.
var notSymbols = slices.Concat([]int{api.Eob, 258, 259, 300, 511, 512, 513, 514, 1<<16 - 1, 1 << 16, 1<<16 + 1, 1<<16 + 2, api.MaxTotal}, below, above)

// dice gives numbers that look thrown, the same ones in every run.
type dice uint64

func (d *dice) roll(sides int) int {
	*d = *d*6364136223846793005 + 1442695040888963407
	return int(uint64(*d) >> 33 % uint64(sides))
}

// places returns positions below a number; about one of so many is thrown, and the others are 0.
func (d *dice) places(many, oneOf, end int) []int {
	l := make([]int, many)
	for i := range l {
		if d.roll(oneOf) == 0 {
			l[i] = d.roll(end)
		}
	}
	return l
}

// symbols returns symbols below a number, in runs of no more than so many digits.
func (d *dice) symbols(many, longest, end int) []int {
	l := make([]int, many)
	digits := 0
	for i := range l {
		if digits < longest && d.roll(3) > 0 {
			l[i] = d.roll(2)
			digits++
		} else {
			l[i] = 2 + d.roll(end-2)
			digits = 0
		}
	}
	return l
}

// times returns a number that many times.
func times(many, n int) []int { return slices.Repeat([]int{n}, many) }

// sequences returns all sequences of numbers from 0 to one below kinds, up to a length.
func sequences(longest, kinds int) [][]int {
	all := [][]int{{}}
	for first := 0; len(all[first]) < longest; first++ {
		for n := range kinds {
			all = append(all, append(slices.Clone(all[first]), n))
		}
	}
	return all
}

// worth follows the definition: what the digits contribute, however many they are.
func worth(digits []int) *big.Int {
	sum := new(big.Int)
	for i, digit := range digits {
		value := big.NewInt(1)
		if digit == b {
			value = big.NewInt(2)
		}
		sum.Add(sum, value.Lsh(value, uint(i)))
	}
	return sum
}

// digitsOf finds one digit after the other: the first one of an odd number must be RunA, that of an even one RunB.
func digitsOf(n int) []int {
	var digits []int
	for n > 0 {
		if n%2 == 1 {
			digits = append(digits, a)
			n = (n - 1) / 2
		} else {
			digits = append(digits, b)
			n = (n - 2) / 2
		}
	}
	return digits
}

var (
	zeroRuns  = regexp.MustCompile("\x00+")
	digitRuns = regexp.MustCompile("[\x00\x01]+")
)

// letters returns numbers as a string, one letter each.
func letters(l []int) string {
	var s strings.Builder
	for _, n := range l {
		s.WriteRune(rune(n))
	}
	return s.String()
}

func numbers(letters string) []int {
	var l []int
	for _, r := range letters {
		l = append(l, int(r))
	}
	return l
}

// symbolsOf follows the definition, on strings.
func symbolsOf(places []int) []int {
	raised := strings.Map(func(r rune) rune {
		if r == 0 {
			return 0
		}
		return r + 1
	}, letters(places))
	return numbers(zeroRuns.ReplaceAllStringFunc(raised, func(run string) string { return letters(digitsOf(len(run))) }))
}

// placesOf follows the definition, on strings.
func placesOf(symbols []int) []int {
	unrolled := digitRuns.ReplaceAllStringFunc(letters(symbols), func(run string) string {
		return strings.Repeat("\x00", int(worth(numbers(run)).Int64()))
	})
	return numbers(strings.Map(func(r rune) rune { return max(r, 1) - 1 }, unrolled))
}

// ordinary returns numbers from 0 to MaxTotal: the small ones, those around the powers of two and their sums, and others.
func ordinary() []int {
	d := dice(1)
	var all []int
	for n := range 5000 {
		all = append(all, n, api.MaxTotal-n)
	}
	for width := range 31 {
		for near := -5; near <= 5; near++ {
			all = append(all, 1<<width+near, 3<<width+near, 5<<width+near, 1<<30+1<<width+near, api.MaxTotal-1<<width+near)
		}
		for range 50 {
			all = append(all, 1<<width+d.roll(1<<width))
		}
	}
	return slices.DeleteFunc(all, func(n int) bool { return n < 0 || n > api.MaxTotal })
}

// placeLists returns positions of many kinds: runs of zeros of all lengths at all ends, none, nothing else, and thrown ones.
func placeLists() [][]int {
	d := dice(2)
	all := [][]int{nil, {}, {0}, {1}, {2}, {254}, {255}, {0, 0}, {0, 255}, {255, 0}, {1, 0, 1}, {0, 1, 0}, {0, 0, 0, 5, 0}, {254, 255, 0, 0, 1, 2}, {1, 2, 3, 254, 255}}
	for length := range 300 {
		run := times(length, 0)
		other := 1 + length%255
		all = append(all, run, slices.Concat(run, []int{other}), slices.Concat([]int{other}, run), slices.Concat([]int{other}, run, []int{256 - other}), slices.Concat([]int{1}, run, []int{255}, run, []int{254}), slices.Concat(run, []int{1}, run))
	}
	for _, length := range []int{1<<10 - 2, 1<<10 - 1, 1 << 10, 1<<16 - 2, 1<<16 - 1, 1 << 16, 100000} {
		run := times(length, 0)
		all = append(all, run, slices.Concat(run, []int{7}, run[1:], []int{8}))
	}
	for _, oneOf := range []int{1, 2, 3, 10, 100} {
		for _, end := range []int{1, 2, 3, 16, 255, 256} {
			for _, many := range []int{2, 5, 30, 256, 3000} {
				all = append(all, d.places(many, oneOf, end))
			}
		}
	}
	var each []int
	for place := range 256 {
		each = append(each, place)
	}
	return append(all, each, each[1:])
}

// symbolLists returns symbols of many kinds, with runs of up to a dozen digits.
func symbolLists() [][]int {
	d := dice(3)
	all := [][]int{nil, {}, {a}, {b}, {2}, {3}, {255}, {256}, {a, 2}, {2, b}, {a, a, 6, a}, {256, 255, a, b, 2, 3}, {b, b, b, 256, a, a, a}}
	for longest := range 13 {
		for _, end := range []int{3, 4, 20, 257} {
			for _, many := range []int{1, 5, 30, 300} {
				all = append(all, d.symbols(many, longest, end))
			}
		}
	}
	for range 30 {
		all = append(all, d.symbols(1+d.roll(20), 17, 257))
	}
	return all
}

// brief returns the first numbers of many, for messages.
func brief(l []int) string {
	if len(l) > 100 {
		return fmt.Sprintf("%d and more, %d in all", l[:100], len(l))
	}
	return fmt.Sprint(l)
}

func wantDigits(t *testing.T, n int, want []int) {
	t.Helper()
	if l, e := zerorun.Digits(n); !slices.Equal(l, want) || e != api.OK {
		t.Errorf("Digits(%d): %s, %d, want %s, 0", n, brief(l), e, brief(want))
	}
}

func wantNoDigits(t *testing.T, n int) {
	t.Helper()
	if l, e := zerorun.Digits(n); len(l) != 0 || e != api.ErrArg {
		t.Errorf("Digits(%d): %s, %d, want nothing, ErrArg", n, brief(l), e)
	}
}

func wantNumber(t *testing.T, digits []int, want int) {
	t.Helper()
	if n, e := zerorun.Number(digits...); n != want || e != api.OK {
		t.Errorf("Number(%s): %d, %d, want %d, 0", brief(digits), n, e, want)
	}
}

func wantNoNumber(t *testing.T, digits []int) {
	t.Helper()
	if n, e := zerorun.Number(digits...); n != 0 || e != api.ErrArg {
		t.Errorf("Number(%s): %d, %d, want 0, ErrArg", brief(digits), n, e)
	}
}

// wantEach asks that Digits gives these digits for a number, and Number the number for them.
func wantEach(t *testing.T, n int, digits []int) {
	t.Helper()
	wantDigits(t, n, digits)
	wantNumber(t, digits, n)
}

func wantAdd(t *testing.T, n, many, digit, want int) {
	t.Helper()
	if sum, e := zerorun.Add(n, many, digit); sum != want || e != api.OK {
		t.Errorf("Add(%d, %d, %d): %d, %d, want %d, 0", n, many, digit, sum, e, want)
	}
}

func wantNoAdd(t *testing.T, n, many, digit int) {
	t.Helper()
	if sum, e := zerorun.Add(n, many, digit); sum != 0 || e != api.ErrArg {
		t.Errorf("Add(%d, %d, %d): %d, %d, want 0, ErrArg", n, many, digit, sum, e)
	}
}

func wantFold(t *testing.T, places, want []int) {
	t.Helper()
	if l, e := zerorun.Fold(places...); !slices.Equal(l, want) || e != api.OK {
		t.Errorf("Fold(%s): %s, %d, want %s, 0", brief(places), brief(l), e, brief(want))
	}
}

func wantNoFold(t *testing.T, places []int) {
	t.Helper()
	if l, e := zerorun.Fold(places...); len(l) != 0 || e != api.ErrArg {
		t.Errorf("Fold(%s): %s, %d, want nothing, ErrArg", brief(places), brief(l), e)
	}
}

func wantUnfold(t *testing.T, most int, symbols, want []int) {
	t.Helper()
	if l, e := zerorun.Unfold(most, symbols...); !slices.Equal(l, want) || e != api.OK {
		t.Errorf("Unfold(%d, %s): %s, %d, want %s, 0", most, brief(symbols), brief(l), e, brief(want))
	}
}

func wantNoUnfold(t *testing.T, most int, symbols []int) {
	t.Helper()
	if l, e := zerorun.Unfold(most, symbols...); len(l) != 0 || e != api.ErrArg {
		t.Errorf("Unfold(%d, %s): %s, %d, want nothing, ErrArg", most, brief(symbols), brief(l), e)
	}
}

// wantFit asks that symbols give positions with just enough space and with more, and none with less.
func wantFit(t *testing.T, symbols, places []int) {
	t.Helper()
	many := len(places)
	for _, most := range []int{many, many + 1, many + 2, 2*many + 100, api.MaxTotal - 1, api.MaxTotal, 1 << 31, 1 << 32, 1 << 62, math.MaxInt - 1, math.MaxInt} {
		wantUnfold(t, most, symbols, places)
	}
	for _, most := range []int{many - 1, many - 2, many / 2, 1, 0, -1, -many - 1, math.MinInt} {
		if most < many {
			wantNoUnfold(t, most, symbols)
		}
	}
}

// P14.1

func TestDigitsOfSmallNumbers(t *testing.T) {
	for n, digits := range [][]int{nil, {a}, {b}, {a, a}, {b, a}, {a, b}, {b, b}, {a, a, a}, {b, a, a}, {a, b, a}, {b, b, a}, {a, a, b}, {b, a, b}, {a, b, b}, {b, b, b}, {a, a, a, a}, {b, a, a, a}} {
		wantEach(t, n, digits)
	}
}

func TestDigitsOfTheLargestNumbers(t *testing.T) {
	wantEach(t, api.MaxTotal, times(31, a))
	wantEach(t, api.MaxTotal-1, times(30, b))
	wantEach(t, api.MaxTotal-2, append([]int{a}, times(29, b)...))
	wantEach(t, api.MaxTotal-3, append([]int{b, a}, times(28, b)...))
	wantEach(t, 1<<30, append([]int{b}, times(29, a)...))
	wantEach(t, 1<<30-1, times(30, a))
	wantEach(t, 1<<30-2, times(29, b))
}

// Around 2^k - 1 the digits become one more.
func TestDigitsAroundThePowersOfTwo(t *testing.T) {
	for width := range 30 {
		wantEach(t, 1<<width-1, times(width, a))
		wantEach(t, 1<<(width+1)-2, times(width, b))
		wantEach(t, 1<<width, digitsOf(1<<width))
		wantEach(t, 1<<width+1, digitsOf(1<<width+1))
	}
}

func TestDigitsFollowTheDefinition(t *testing.T) {
	for _, n := range ordinary() {
		wantEach(t, n, digitsOf(n))
		l, _ := zerorun.Digits(n)
		if slices.ContainsFunc(l, func(digit int) bool { return digit != a && digit != b }) || worth(l).Cmp(big.NewInt(int64(n))) != 0 {
			t.Errorf("Digits(%d): %d", n, l)
		}
	}
}

// Every sequence of a few digits is that of one number, and no two are those of the same one.
func TestDigitsOfAllShortSequences(t *testing.T) {
	found := map[int]bool{}
	for _, digits := range sequences(13, 2) {
		n := int(worth(digits).Int64())
		if found[n] {
			t.Errorf("%d twice", n)
		}
		found[n] = true
		wantEach(t, n, digits)
	}
	for n := range 1<<14 - 1 {
		if !found[n] {
			t.Errorf("%d is lacking", n)
		}
	}
}

func TestDigitsOfWrongNumbers(t *testing.T) {
	for _, n := range slices.Concat(below, above) {
		wantNoDigits(t, n)
	}
	for n := range 3000 {
		wantNoDigits(t, -1-n)
		wantNoDigits(t, api.MaxTotal+1+n)
	}
}

func TestNumberOfLongSequences(t *testing.T) {
	d := dice(4)
	// Of the sequences of 31 digits only the one without RunB is that of an allowed number.
	for _, length := range []int{28, 29, 30, 31, 32, 33} {
		for range 500 {
			digits := make([]int, length)
			for i := range digits {
				digits[i] = d.roll(2)
			}
			wantNumberByWorth(t, digits)
		}
		for _, digit := range []int{a, b} {
			digits := times(length, digit)
			wantNumberByWorth(t, digits)
			for i := range digits {
				digits[i] = a + b - digit
				wantNumberByWorth(t, digits)
				digits[i] = digit
			}
		}
	}
}

// wantNumberByWorth asks for the number that the digits contribute, or an error if that is too great.
func wantNumberByWorth(t *testing.T, digits []int) {
	t.Helper()
	if n := worth(digits); n.Cmp(big.NewInt(api.MaxTotal)) > 0 {
		wantNoNumber(t, digits)
	} else {
		wantNumber(t, digits, int(n.Int64()))
	}
}

func TestNumberJustAboveMaxTotal(t *testing.T) {
	wantNumber(t, times(30, b), api.MaxTotal-1)
	wantNumber(t, times(31, a), api.MaxTotal)
	for i := range 31 {
		digits := times(31, a)
		digits[i] = b // MaxTotal + 2^i
		wantNoNumber(t, digits)
	}
	wantNoNumber(t, times(31, b))
	wantNoNumber(t, times(32, a))
}

func TestNumberOfVeryLongSequences(t *testing.T) {
	for _, length := range []int{33, 34, 60, 61, 62, 63, 64, 65, 66, 95, 96, 97, 127, 128, 129, 255, 256, 257, 1000, 1 << 16, 100000} {
		for _, digit := range []int{a, b} {
			digits := times(length, digit)
			wantNoNumber(t, digits)
			digits[length-1] = a + b - digit
			wantNoNumber(t, digits)
			digits[0] = a + b - digit
			wantNoNumber(t, digits)
		}
	}
}

func TestNumberOfWrongDigits(t *testing.T) {
	for _, wrong := range notDigits {
		wantNoNumber(t, []int{wrong})
		for _, length := range []int{1, 2, 5, 29, 30, 31, 32, 64, 100} {
			for _, digit := range []int{a, b} {
				for _, at := range []int{0, 1, length / 2, length} {
					wantNoNumber(t, slices.Insert(times(length, digit), min(at, length), wrong))
				}
			}
		}
		wantNoNumber(t, times(3, wrong))
		wantNoNumber(t, times(31, wrong))
	}
}

func TestAddOfOrdinaryDigits(t *testing.T) {
	wantAdd(t, 0, 0, a, 1)
	wantAdd(t, 0, 0, b, 2)
	wantAdd(t, 1, 1, a, 3)
	wantAdd(t, 2, 1, b, 6)
	wantAdd(t, 3, 2, b, 11)
	wantAdd(t, 3, 2, a, 7)
	// The number need not have as many digits as the index says.
	wantAdd(t, 100, 0, b, 102)
	wantAdd(t, 0, 20, a, 1<<20)
	wantAdd(t, 5, 29, b, 1<<30+5)
}

func TestAddAtTheEnds(t *testing.T) {
	wantAdd(t, 0, 30, a, 1<<30)
	wantAdd(t, 1<<30-1, 30, a, api.MaxTotal)
	wantAdd(t, 0, 29, b, 1<<30)
	wantAdd(t, 1<<30-1, 29, b, api.MaxTotal)
	wantAdd(t, api.MaxTotal-1, 0, a, api.MaxTotal)
	wantAdd(t, api.MaxTotal-2, 0, b, api.MaxTotal)
	wantNoAdd(t, 1<<30, 30, a)
	wantNoAdd(t, 0, 30, b)
	wantNoAdd(t, api.MaxTotal, 0, a)
	wantNoAdd(t, api.MaxTotal-1, 0, b)
	wantNoAdd(t, 0, 31, a)
	wantNoAdd(t, -1, 0, a)
	wantNoAdd(t, 0, -1, a)
}

func TestAddFollowsTheDefinition(t *testing.T) {
	for many := range 31 {
		for _, digit := range []int{a, b} {
			value := (1 + digit) << many
			for _, n := range ordinary() {
				if n+value > api.MaxTotal {
					wantNoAdd(t, n, many, digit)
				} else {
					wantAdd(t, n, many, digit, n+value)
				}
			}
			for near := range 100 {
				if n := api.MaxTotal - value - near; n >= 0 {
					wantAdd(t, n, many, digit, api.MaxTotal-near)
				}
				wantNoAdd(t, api.MaxTotal-value+1+near, many, digit)
			}
		}
	}
}

// Of the digits' sums one after the other, each is the number of the digits so far.
func TestAddOfDigitsInTurn(t *testing.T) {
	for _, n := range ordinary() {
		digits := digitsOf(n)
		sum := 0
		for many, digit := range digits {
			next := int(worth(digits[:many+1]).Int64())
			wantAdd(t, sum, many, digit, next)
			sum = next
		}
	}
}

func TestAddToWrongNumbers(t *testing.T) {
	for _, n := range slices.Concat(below, above) {
		for many := range 31 {
			wantNoAdd(t, n, many, a)
			wantNoAdd(t, n, many, b)
		}
	}
}

func TestAddAtWrongIndexes(t *testing.T) {
	for _, many := range slices.Concat(below, above, []int{31, 32, 33, 60, 61, 62, 63, 64, 65, 94, 95, 96, 128, 255, 256, 257, 1 << 16, api.MaxTotal}) {
		for _, n := range []int{0, 1, 5, 1 << 30, api.MaxTotal} {
			wantNoAdd(t, n, many, a)
			wantNoAdd(t, n, many, b)
		}
	}
}

func TestAddOfWrongDigits(t *testing.T) {
	for _, wrong := range notDigits {
		for _, n := range []int{0, 1, 5, 1 << 29, api.MaxTotal} {
			for many := range 31 {
				wantNoAdd(t, n, many, wrong)
			}
		}
	}
}

func TestAddOfSeveralWrongArguments(t *testing.T) {
	wrong := slices.Concat(below, above)
	for i, n := range wrong {
		for j, many := range wrong {
			wantNoAdd(t, n, many, wrong[(i+j)%len(wrong)])
		}
	}
}

// P14.2

func TestFoldOfOrdinaryPositions(t *testing.T) {
	wantFold(t, []int{0, 0, 0, 5, 0}, []int{a, a, 6, a})
	wantFold(t, []int{2, 0, 1, 2}, []int{3, a, 2, 3})
	wantFold(t, []int{0, 0, 7, 0, 0, 0, 0, 9}, []int{b, 8, b, a, 10})
	wantFold(t, []int{7, 0, 0, 0, 0, 0, 0}, []int{8, b, b})
}

func TestFoldOfNothing(t *testing.T) {
	wantFold(t, nil, nil)
	wantFold(t, []int{}, nil)
}

func TestFoldOfSinglePositions(t *testing.T) {
	wantFold(t, []int{0}, []int{a})
	for place := 1; place < 256; place++ {
		wantFold(t, []int{place}, []int{place + 1})
		wantFold(t, []int{place, 0}, []int{place + 1, a})
		wantFold(t, []int{0, 0, place}, []int{b, place + 1})
	}
}

func TestFoldOfRuns(t *testing.T) {
	for length := 1; length < 700; length++ {
		run, digits := times(length, 0), digitsOf(length)
		wantFold(t, run, digits)
		wantFold(t, slices.Concat(run, []int{1}), slices.Concat(digits, []int{2}))
		wantFold(t, slices.Concat([]int{255}, run), slices.Concat([]int{256}, digits))
		wantFold(t, slices.Concat([]int{1}, run, []int{254}), slices.Concat([]int{2}, digits, []int{255}))
		wantFold(t, slices.Concat(run, []int{3}, run), slices.Concat(digits, []int{4}, digits))
	}
}

func TestFoldWithoutRuns(t *testing.T) {
	var places, symbols []int
	for place := 1; place < 256; place++ {
		places = append(places, place, place)
		symbols = append(symbols, place+1, place+1)
	}
	wantFold(t, places, symbols)
	wantFold(t, times(500, 1), times(500, 2))
	wantFold(t, times(500, 255), times(500, 256))
}

func TestFoldFollowsTheDefinition(t *testing.T) {
	for _, places := range slices.Concat(placeLists(), sequences(7, 4)) {
		wantFold(t, places, symbolsOf(places))
	}
}

func TestFoldOfWrongPositions(t *testing.T) {
	d := dice(5)
	for _, wrong := range notPlaces {
		wantNoFold(t, []int{wrong})
		wantNoFold(t, []int{wrong, wrong})
		for _, right := range [][]int{{0}, {1}, {255}, {0, 0, 0}, {1, 0}, {0, 1}, d.places(40, 2, 256)} {
			wantNoFold(t, slices.Concat([]int{wrong}, right))
			wantNoFold(t, slices.Concat(right, []int{wrong}))
			wantNoFold(t, slices.Concat(right, []int{wrong}, right))
		}
	}
}

func TestUnfoldOfOrdinarySymbols(t *testing.T) {
	wantFit(t, []int{a, a, 6, a}, []int{0, 0, 0, 5, 0})
	wantFit(t, []int{3, a, 2, 3}, []int{2, 0, 1, 2})
	wantFit(t, []int{b, 8, b, a, 10}, []int{0, 0, 7, 0, 0, 0, 0, 9})
	wantFit(t, []int{8, b, b}, []int{7, 0, 0, 0, 0, 0, 0})
}

func TestUnfoldOfNothing(t *testing.T) {
	wantFit(t, nil, nil)
	wantFit(t, []int{}, nil)
}

func TestUnfoldOfSingleSymbols(t *testing.T) {
	wantFit(t, []int{a}, []int{0})
	wantFit(t, []int{b}, []int{0, 0})
	for symbol := 2; symbol <= 256; symbol++ {
		wantFit(t, []int{symbol}, []int{symbol - 1})
		wantFit(t, []int{symbol, a}, []int{symbol - 1, 0})
		wantFit(t, []int{b, symbol}, []int{0, 0, symbol - 1})
	}
}

func TestUnfoldOfRuns(t *testing.T) {
	for length := 1; length < 700; length++ {
		run, digits := times(length, 0), digitsOf(length)
		wantFit(t, digits, run)
		wantFit(t, slices.Concat(digits, []int{2}), slices.Concat(run, []int{1}))
		wantFit(t, slices.Concat([]int{256}, digits), slices.Concat([]int{255}, run))
		wantFit(t, slices.Concat([]int{2}, digits, []int{255}), slices.Concat([]int{1}, run, []int{254}))
		wantFit(t, slices.Concat(digits, []int{4}, digits), slices.Concat(run, []int{3}, run))
	}
}

func TestUnfoldFollowsTheDefinition(t *testing.T) {
	for _, symbols := range slices.Concat(symbolLists(), sequences(6, 4)) {
		wantFit(t, symbols, placesOf(symbols))
	}
}

func TestUnfoldOfVeryLongRuns(t *testing.T) {
	for _, length := range []int{1<<16 - 1, 1 << 16, 1<<20 - 2, 1<<20 - 1, 1 << 20, 1<<21 + 12345} {
		run, symbols := times(length, 0), digitsOf(length)
		wantUnfold(t, length, symbols, run)
		wantUnfold(t, math.MaxInt, symbols, run)
		wantNoUnfold(t, length-1, symbols)
		wantUnfold(t, length+1, append(symbols, 256), append(run, 255))
		wantNoUnfold(t, length, append(symbols, 256))
		wantNoUnfold(t, 2*length, slices.Concat(symbols, []int{256}, symbols))
	}
}

// The number of positions is known without making them.
func TestUnfoldOfTooLongRuns(t *testing.T) {
	for _, length := range []int{1 << 29, 1<<30 - 1, 1 << 30, 1<<30 + 1, api.MaxTotal - 2, api.MaxTotal - 1, api.MaxTotal} {
		symbols := digitsOf(length)
		for _, most := range []int{0, 1, 100, 1 << 16, length / 2, length - 2, length - 1} {
			wantNoUnfold(t, most, symbols)
			wantNoUnfold(t, most, append([]int{2}, symbols...))
			wantNoUnfold(t, most, append(symbols, 2, 3))
		}
		wantNoUnfold(t, length, append([]int{2}, symbols...))
		wantNoUnfold(t, length, append(symbols, 256))
		wantNoUnfold(t, length, append([]int{a, 2}, symbols...))
		wantNoUnfold(t, length+1, slices.Concat(symbols, []int{2}, symbols))
	}
}

// A wrong symbol behind a run is found before the run's positions are made.
func TestUnfoldOfAWrongSymbolBehindALongRun(t *testing.T) {
	for _, wrong := range []int{-1, 257, 258, 1 << 32} {
		wantNoUnfold(t, api.MaxTotal, append(times(31, a), wrong))
		wantNoUnfold(t, math.MaxInt, append(times(30, b), 2, wrong))
		wantNoUnfold(t, math.MaxInt, slices.Concat(times(30, b), []int{2}, times(30, b), []int{2, wrong}))
	}
}

// No more positions than a text has are asked for.
func TestUnfoldOfMorePositionsThanATextHas(t *testing.T) {
	for _, most := range []int{api.MaxTotal, 1 << 31, math.MaxInt} {
		wantNoUnfold(t, most, append(times(31, a), 2))
		wantNoUnfold(t, most, slices.Repeat(append(times(31, a), 2), 100000))
	}
}

func TestUnfoldOfRunsThatNumberRejects(t *testing.T) {
	for _, run := range [][]int{append([]int{b}, times(30, a)...), append(times(30, a), b), times(31, b), times(32, a), times(32, b), times(33, a), times(62, a), times(63, a), times(64, a), times(65, b), times(128, a), times(1000, b)} {
		for _, most := range []int{0, 1, 1000, api.MaxTotal - 1, api.MaxTotal, 1 << 31, 1 << 32, 1 << 62, math.MaxInt} {
			wantNoUnfold(t, most, run)
			wantNoUnfold(t, most, append([]int{2}, run...))
			wantNoUnfold(t, most, append(run, 256))
			wantNoUnfold(t, most, slices.Concat([]int{a, 3, b, 2}, run, []int{3, 4}))
		}
	}
}

// A run ends where another symbol is; so many digits may follow each other in several runs.
func TestUnfoldOfManyRuns(t *testing.T) {
	symbols := slices.Repeat([]int{a, a, 2, b, 3}, 1000)
	wantFit(t, symbols, slices.Repeat([]int{0, 0, 0, 1, 0, 0, 2}, 1000))
	symbols = slices.Concat(times(16, a), []int{2}, times(16, b), []int{2}, times(15, a))
	wantFit(t, symbols, slices.Concat(times(1<<16-1, 0), []int{1}, times(1<<17-2, 0), []int{1}, times(1<<15-1, 0)))
}

func TestUnfoldOfWrongSymbols(t *testing.T) {
	d := dice(6)
	for _, wrong := range notSymbols {
		for _, most := range []int{0, 1, 2, 100, 1 << 20, api.MaxTotal, math.MaxInt} {
			wantNoUnfold(t, most, []int{wrong})
			wantNoUnfold(t, most, []int{wrong, wrong})
			for _, right := range [][]int{{a}, {b}, {2}, {256}, {a, b, a}, {2, a}, {b, 256}, d.symbols(40, 5, 257)} {
				wantNoUnfold(t, most, slices.Concat([]int{wrong}, right))
				wantNoUnfold(t, most, slices.Concat(right, []int{wrong}))
				wantNoUnfold(t, most, slices.Concat(right, []int{wrong}, right))
			}
		}
	}
}

func TestUnfoldWithALimitBelowZero(t *testing.T) {
	for _, most := range below {
		for _, symbols := range [][]int{nil, {}, {a}, {b}, {2}, {256}, {257}, {-1}, {a, a, 6, a}, times(31, a), times(32, a)} {
			wantNoUnfold(t, most, symbols)
		}
	}
}

// P14.3

func TestNumberIsInverseToDigits(t *testing.T) {
	for _, n := range ordinary() {
		l, _ := zerorun.Digits(n)
		wantNumber(t, l, n)
	}
	for n := range 200000 {
		l, _ := zerorun.Digits(n)
		wantNumber(t, l, n)
	}
}

func TestDigitsAreInverseToNumber(t *testing.T) {
	d := dice(7)
	for range 20000 {
		digits := make([]int, d.roll(31))
		for i := range digits {
			digits[i] = d.roll(2)
		}
		n, _ := zerorun.Number(digits...)
		wantDigits(t, n, digits)
	}
}

func TestTheNumberOfDigits(t *testing.T) {
	for _, n := range ordinary() {
		if l, _ := zerorun.Digits(n); len(l) != len(fmt.Sprintf("%b", n+1))-1 || len(l) != bits.Len(uint(n+1))-1 {
			t.Errorf("Digits(%d): %d", n, l)
		}
	}
}

func TestUnfoldIsInverseToFold(t *testing.T) {
	for _, places := range slices.Concat(placeLists(), sequences(7, 4)) {
		symbols, e := zerorun.Fold(places...)
		if e != api.OK {
			t.Errorf("Fold(%s): %d", brief(places), e)
		}
		wantFit(t, symbols, places)
	}
}

func TestFoldIsInverseToUnfold(t *testing.T) {
	for _, symbols := range slices.Concat(symbolLists(), sequences(6, 4)) {
		places, e := zerorun.Unfold(math.MaxInt, symbols...)
		if e != api.OK {
			t.Errorf("Unfold(%s): %d", brief(symbols), e)
		}
		wantFold(t, places, symbols)
	}
}

// Memory

// spare returns numbers in a slice with more capacity, and the whole of its memory.
func spare(l []int) (own, whole []int) {
	whole = append(slices.Clone(l), 77, 78, 79, 80)
	return whole[:len(l)], whole
}

// wantUnchanged asks that a call neither changes its argument nor what is behind it.
func wantUnchanged(t *testing.T, l []int, call func([]int)) {
	t.Helper()
	own, whole := spare(l)
	before := slices.Clone(whole)
	call(own)
	if !slices.Equal(whole, before) {
		t.Errorf("%s became %s", brief(before), brief(whole))
	}
}

func TestArgumentsStayAsTheyWere(t *testing.T) {
	for _, l := range slices.Concat(placeLists(), symbolLists(), [][]int{{1, 256}, {0, -1}, {2, 257}, {a, a, -1}, times(32, a)}) {
		wantUnchanged(t, l, func(l []int) { zerorun.Fold(l...) })
		wantUnchanged(t, l, func(l []int) { zerorun.Number(l...) })
		for _, most := range []int{-1, 0, len(l), 1 << 17} {
			wantUnchanged(t, l, func(l []int) { zerorun.Unfold(most, l...) })
		}
	}
}

// wantNewMemory asks that a result stays when its argument and later results are overwritten, up to their capacity, and that it is made anew in each call.
func wantNewMemory(t *testing.T, l []int, call func([]int) []int) {
	t.Helper()
	own, whole := spare(l)
	first := call(own)
	kept := slices.Clone(first)
	second := call(own)
	overwrite(whole)
	overwrite(second)
	if !slices.Equal(first, kept) {
		t.Errorf("%s became %s", brief(kept), brief(first))
	}
	copy(whole, l)
	overwrite(first)
	if !slices.Equal(own, l) {
		t.Errorf("%s became %s", brief(l), brief(own))
	}
	if again := call(own); !slices.Equal(again, kept) {
		t.Errorf("%s, later %s", brief(kept), brief(again))
	}
}

func overwrite(l []int) {
	l = l[:cap(l)]
	for i := range l {
		l[i] = -99
	}
}

func TestResultsAreNewMemory(t *testing.T) {
	for _, l := range placeLists() {
		wantNewMemory(t, l, func(l []int) []int {
			symbols, _ := zerorun.Fold(l...)
			return symbols
		})
	}
	for _, l := range symbolLists() {
		wantNewMemory(t, l, func(l []int) []int {
			places, _ := zerorun.Unfold(1<<30, l...)
			return places
		})
	}
	for _, n := range []int{0, 1, 2, 3, 6, 1000, api.MaxTotal - 1, api.MaxTotal} {
		wantNewMemory(t, []int{n}, func(l []int) []int {
			digits, _ := zerorun.Digits(l[0])
			return digits
		})
	}
}

// Calls keep nothing: the same arguments give the same results after others.
func TestCallsDoNotDependOnEarlierOnes(t *testing.T) {
	for range 3 {
		wantEach(t, 11, []int{a, a, b})
		wantNoDigits(t, -1)
		wantNoNumber(t, []int{a, 2})
		wantAdd(t, 3, 2, b, 11)
		wantNoAdd(t, 3, 31, b)
		wantFold(t, []int{0, 0, 0, 5, 0}, []int{a, a, 6, a})
		wantNoFold(t, []int{0, 0, 256})
		wantFit(t, []int{a, a, 6, a}, []int{0, 0, 0, 5, 0})
		wantNoUnfold(t, 9, []int{a, a, 257})
	}
}
