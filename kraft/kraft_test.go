package kraft_test

import (
	"math"
	"slices"
	"testing"

	"winepress/api"
	"winepress/histogram"
	"winepress/kraft"
)

const (
	last  = api.Symbols - 1
	limit = 32768
)

// wild holds numbers that are not frequencies; the low bits of some would be.
var wild = []int{
	math.MinInt, math.MinInt + 1, math.MinInt + 5, -1 << 62, -1<<62 + 5, -1<<40 + 7, -1<<32 + 5, -1 << 32, -1<<31 - 1, -1 << 31, -65531, -32768, -256, -251, -3, -2, -1,
	api.MaxTotal + 1, api.MaxTotal + 2, 1<<31 + 9, 1<<32 - 1, 1 << 32, 1<<32 + 5, 1<<40 + 9, 1 << 62, 1<<62 + 5, math.MaxInt - 1, math.MaxInt,
}

// tooGreat holds lengths that no code has.
var tooGreat = []uint8{16, 17, 18, 30, 31, 32, 33, 47, 48, 63, 64, 79, 80, 127, 128, 129, 143, 144, 240, 241, 254, 255}

// places holds symbols at which lengths and tallies are looked at: the ends, those next to them, the bytes' ends and others. The last one is Eob.
var places = []int{0, 1, 2, 3, 100, 127, 128, 254, 255, 256, last}

// dice gives numbers that look thrown, the same ones in every run.
type dice uint64

func (d *dice) roll(sides int) int {
	*d = *d*6364136223846793005 + 1442695040888963407
	return int(uint64(*d) >> 33 % uint64(sides))
}

// tally returns a valid tally: each symbol has a frequency below most, and some of them 0.
func (d *dice) tally(most int) api.Histogram {
	var t api.Histogram
	for s := range t {
		if d.roll(3) > 0 {
			t[s] = d.roll(most)
		}
	}
	return t
}

// lengths returns lengths up to most for all symbols.
func (d *dice) lengths(most int) api.Lengths {
	var l api.Lengths
	for s := range l {
		l[s] = uint8(d.roll(most + 1))
	}
	return l
}

// symbol returns a symbol whose length is between two.
func (d *dice) symbol(l api.Lengths, from, to uint8) (symbol int, ok bool) {
	var some []int
	for s, length := range l {
		if length >= from && length <= to {
			some = append(some, s)
		}
	}
	if some == nil {
		return 0, false
	}
	return some[d.roll(len(some))], true
}

// complete returns complete lengths of at least two symbols, with a length for Eob: one of those with a length is divided into two again and again.
func (d *dice) complete(symbols int) api.Lengths {
	l := lengthsAt(map[int]uint8{d.roll(last): 1, last: 1})
	for range symbols - 2 {
		parent, ok := d.symbol(l, 1, api.MaxCode-1)
		if !ok {
			return l
		}
		child, _ := d.symbol(l, 0, 0)
		l[parent]++
		l[child] = l[parent]
	}
	return l
}

// fitting returns lengths that satisfy the Kraft inequality: complete ones, from some of which symbols are taken or whose lengths are increased.
func (d *dice) fitting() api.Lengths {
	l := d.complete(2 + d.roll(last))
	for range d.roll(4) {
		s := d.roll(api.Symbols)
		switch d.roll(2) {
		case 0:
			l[s] = 0
		case 1:
			if l[s] > 0 {
				l[s] += uint8(d.roll(api.MaxCode + 1 - int(l[s])))
			}
		}
	}
	return l
}

// tallyAt returns the tally with these frequencies.
func tallyAt(frequencies map[int]int) api.Histogram {
	var t api.Histogram
	for s, n := range frequencies {
		t[s] = n
	}
	return t
}

// lengthsAt returns these lengths.
func lengthsAt(lengths map[int]uint8) api.Lengths {
	var l api.Lengths
	for s, n := range lengths {
		l[s] = n
	}
	return l
}

// evenly returns one length for as many symbols, the last ones.
func evenly(length uint8, many int) api.Lengths {
	var l api.Lengths
	for s := range many {
		l[last-s] = length
	}
	return l
}

// all returns one length for all symbols.
func all(length uint8) api.Lengths { return evenly(length, api.Symbols) }

// even returns the tally with one frequency for all symbols.
func even(many int) api.Histogram {
	var t api.Histogram
	for s := range t {
		t[s] = many
	}
	return t
}

// steps returns the lengths 1, 2, 3 and on to MaxCode of as many symbols from a first one on. They are one short of complete.
func steps(first int) api.Lengths {
	var l api.Lengths
	for length := 1; length <= api.MaxCode; length++ {
		l[(first+length-1)%api.Symbols] = uint8(length)
	}
	return l
}

// invalid returns tallies with a frequency out of its bounds at one symbol, alone and among valid ones, and at several symbols.
func invalid() []api.Histogram {
	d := dice(1)
	var l []api.Histogram
	for _, n := range wild {
		for _, s := range places {
			one, filled, most := api.Histogram{}, d.tally(1000), even(api.MaxTotal)
			one[s], filled[s], most[s] = n, n, n
			l = append(l, one, filled, most)
		}
		l = append(l, even(n))
	}
	return append(l,
		api.Histogram{0: -1, last: 1},
		api.Histogram{0: 1, last: -1},
		api.Histogram{3: 5, 4: -2},
		api.Histogram{3: -1, 4: api.MaxTotal + 1},
		api.Histogram{0: math.MinInt, 1: math.MaxInt, 2: 1},
		api.Histogram{0: math.MinInt, last: math.MinInt},
	)
}

// weight is a length's weight by its definition.
func weight(length uint8) int {
	if length == 0 {
		return 0
	}
	if length > api.MaxCode {
		return limit + 1
	}
	return int(math.Pow(2, float64(api.MaxCode-length)))
}

// sum is what the weights of the symbols add up to.
func sum(l api.Lengths) int {
	n := 0
	for s := last; s >= 0; s-- {
		n += weight(l[s])
	}
	return n
}

// counts counts the symbols of each length, length by length.
func counts(l api.Lengths) [16]int {
	var c [16]int
	for length := range c {
		for _, n := range l {
			if int(n) == length {
				c[length]++
			}
		}
	}
	return c
}

// cost adds a valid tally's frequencies up, as often as the lengths say.
func cost(x api.Histogram, l api.Lengths) int {
	n := 0
	for s := range api.Symbols {
		for range l[s] {
			n += x[s]
		}
	}
	return n
}

// distinct counts the lengths that none before them are equal to, symbol by symbol.
func distinct(l []api.Lengths) int {
	many := 0
	for i := range l {
		if !slices.ContainsFunc(l[:i], func(other api.Lengths) bool { return slices.Equal(other[:], l[i][:]) }) {
			many++
		}
	}
	return many
}

// greatest returns the greatest length.
func greatest(l api.Lengths) uint8 { return slices.Max(l[:]) }

// shown holds the numbers other than 0, for messages.
func shown[N int | uint8](l []N) map[int]N {
	m := map[int]N{}
	for s, n := range l {
		if n != 0 {
			m[s] = n
		}
	}
	return m
}

// wantSum compares all that P8.1 says of lengths whose weights add up to this.
func wantSum(t *testing.T, l api.Lengths, want int) {
	t.Helper()
	if n := kraft.Sum(l); n != want {
		t.Errorf("Sum(%v): %d, want %d", shown(l[:]), n, want)
	}
	if ok := kraft.Fits(l); ok != (want <= limit) {
		t.Errorf("Fits(%v): %v, the sum being %d", shown(l[:]), ok, want)
	}
	if ok := kraft.Complete(l); ok != (want == limit) {
		t.Errorf("Complete(%v): %v, the sum being %d", shown(l[:]), ok, want)
	}
	if ok := kraft.Table(l); ok != (want == limit && l[api.Eob] > 0) {
		t.Errorf("Table(%v): %v, the sum being %d", shown(l[:]), ok, want)
	}
}

func wantFits(t *testing.T, l api.Lengths, want bool) {
	t.Helper()
	if kraft.Fits(l) != want {
		t.Errorf("Fits(%v): %v", shown(l[:]), !want)
	}
}

func wantComplete(t *testing.T, l api.Lengths, want bool) {
	t.Helper()
	if kraft.Complete(l) != want {
		t.Errorf("Complete(%v): %v", shown(l[:]), !want)
	}
}

func wantTable(t *testing.T, l api.Lengths, want bool) {
	t.Helper()
	if kraft.Table(l) != want {
		t.Errorf("Table(%v): %v", shown(l[:]), !want)
	}
}

func wantCounts(t *testing.T, l api.Lengths, want [16]int) {
	t.Helper()
	if c := kraft.Counts(l); c != want {
		t.Errorf("Counts(%v): %d, want %d", shown(l[:]), c, want)
	}
}

func wantCost(t *testing.T, x api.Histogram, l api.Lengths, want int) {
	t.Helper()
	if n := kraft.Cost(x, l); n != want {
		t.Errorf("Cost(%v, %v): %d, want %d", shown(x[:]), shown(l[:]), n, want)
	}
}

func wantDifferent(t *testing.T, want int, l ...api.Lengths) {
	t.Helper()
	if n := kraft.Different(l...); n != want {
		t.Errorf("Different of %d lengths: %d, want %d", len(l), n, want)
	}
}

// P8.1: Sum, Fits, Complete and Table

func TestSumOfTheExamples(t *testing.T) {
	wantSum(t, lengthsAt(map[int]uint8{0: 1, 1: 2, 257: 2}), 32768)
	wantSum(t, lengthsAt(map[int]uint8{0: 1, 1: 1, 257: 15}), 32769)
	wantSum(t, lengthsAt(map[int]uint8{257: 1}), 16384)
	wantTable(t, lengthsAt(map[int]uint8{0: 1, 1: 2, 257: 2}), true)
	wantFits(t, lengthsAt(map[int]uint8{0: 1, 1: 1, 257: 15}), false)
	wantComplete(t, lengthsAt(map[int]uint8{257: 1}), false)
	wantFits(t, lengthsAt(map[int]uint8{257: 1}), true)
}

func TestSumOfNoSymbols(t *testing.T) {
	wantSum(t, api.Lengths{}, 0)
	wantFits(t, api.Lengths{}, true)
	wantComplete(t, api.Lengths{}, false)
	wantTable(t, api.Lengths{}, false)
}

func TestSumOfOneSymbol(t *testing.T) {
	weights := []int{0, 16384, 8192, 4096, 2048, 1024, 512, 256, 128, 64, 32, 16, 8, 4, 2, 1}
	for s := range api.Symbols {
		for length, want := range weights {
			wantSum(t, lengthsAt(map[int]uint8{s: uint8(length)}), want)
		}
		for length := api.MaxCode + 1; length <= 255; length++ {
			wantSum(t, lengthsAt(map[int]uint8{s: uint8(length)}), 32769)
		}
	}
}

func TestSumOfAllSymbols(t *testing.T) {
	for length := range 256 {
		wantSum(t, all(uint8(length)), api.Symbols*weight(uint8(length)))
	}
	wantSum(t, all(1), 258*16384)
	wantSum(t, all(14), 516)
	wantSum(t, all(15), 258)
	wantSum(t, all(16), 258*32769)
	wantSum(t, all(255), 258*32769)
}

func TestSumOfOrdinaryLengths(t *testing.T) {
	for _, l := range []api.Lengths{{3, 3, 2, 1}, {1, 2, 3, 3}, {2, 2, 2, 2}, {1, 3, 3, 3, 3}, {1, 0, 2, 0, 2}, {1, 1}} {
		wantSum(t, l, limit)
		wantComplete(t, l, true)
		wantTable(t, l, false)
	}
	wantSum(t, api.Lengths{2, 2, 2}, 3*8192)
	wantSum(t, api.Lengths{1, 2, 3}, 16384+8192+4096)
	wantSum(t, api.Lengths{1, 1, 1}, 3*16384)
	wantSum(t, api.Lengths{0: 1, 128: 2, 255: 3, 256: 4, last: 4}, limit)
	wantTable(t, api.Lengths{0: 1, 128: 2, 255: 3, 256: 4, last: 4}, true)
}

func TestSumOfAsManySymbolsAsALengthAllows(t *testing.T) {
	for length := uint8(1); length <= 8; length++ {
		many := 1 << length
		wantSum(t, evenly(length, many-1), limit-weight(length))
		wantSum(t, evenly(length, many), limit)
		wantSum(t, evenly(length, many+1), limit+weight(length))
		wantTable(t, evenly(length, many), true)
		wantFits(t, evenly(length, many+1), false)
	}
}

// The greatest lengths bring a sum to within one of the limit.
func TestSumsNextToTheLimit(t *testing.T) {
	for _, first := range places {
		l := steps(first)
		wantSum(t, l, limit-1)
		wantFits(t, l, true)
		wantComplete(t, l, false)
		wantTable(t, l, false)
		for _, length := range []uint8{15, 14} {
			for s := range api.Symbols {
				if l[s] != 0 {
					continue
				}
				more := l
				more[s] = length
				wantSum(t, more, limit-1+weight(length))
				wantFits(t, more, length == 15)
				wantComplete(t, more, length == 15)
				wantTable(t, more, length == 15 && more[api.Eob] > 0)
			}
		}
	}
}

func TestSumOneMoreThanTheLimit(t *testing.T) {
	d := dice(2)
	for _, l := range []api.Lengths{{0: 1, last: 1}, {0: 1, 1: 1}, {3, 3, 2, 1}, d.complete(60), d.complete(257)} {
		wantSum(t, l, limit)
		s, _ := d.symbol(l, 0, 0)
		l[s] = 15
		wantSum(t, l, limit+1)
		wantFits(t, l, false)
		wantComplete(t, l, false)
		wantTable(t, l, false)
	}
}

// Twice the limit and other multiples of it are not the limit.
func TestSumsOfMultiplesOfTheLimit(t *testing.T) {
	for times := 2; times <= 129; times++ {
		l := evenly(1, 2*times)
		wantSum(t, l, times*limit)
		wantFits(t, l, false)
		wantComplete(t, l, false)
		wantTable(t, l, false)
	}
}

func TestTableAsksForEob(t *testing.T) {
	wantTable(t, api.Lengths{0: 1, 256: 1}, false)
	wantTable(t, api.Lengths{0: 1, last: 1}, true)
	wantTable(t, api.Lengths{256: 1, last: 1}, true)
	d := dice(3)
	for range 100 {
		l := d.complete(2 + d.roll(200))
		wantTable(t, l, true)
		s, _ := d.symbol(l, 0, 0)
		l[s], l[api.Eob] = l[api.Eob], 0
		wantComplete(t, l, true)
		wantTable(t, l, false)
	}
}

func TestTableAsksForCompleteLengths(t *testing.T) {
	for length := range 256 {
		wantTable(t, lengthsAt(map[int]uint8{api.Eob: uint8(length)}), false)
		wantTable(t, lengthsAt(map[int]uint8{0: 1, api.Eob: uint8(length)}), length == 1)
		wantTable(t, lengthsAt(map[int]uint8{0: 1, 1: 1, api.Eob: uint8(length)}), false)
		wantTable(t, lengthsAt(map[int]uint8{0: 1, 1: 2, api.Eob: uint8(length)}), length == 2)
	}
}

func TestTooGreatLengthsViolateTheInequality(t *testing.T) {
	d := dice(4)
	for _, base := range []api.Lengths{{}, {0: 1, last: 1}, {3, 3, 2, 1}, all(15), d.complete(40), d.fitting(), d.lengths(255)} {
		for _, s := range places {
			for _, length := range tooGreat {
				l := base
				l[s] = length
				wantSum(t, l, sum(l))
				wantFits(t, l, false)
				wantComplete(t, l, false)
				wantTable(t, l, false)
			}
		}
	}
}

func TestTooGreatLengthsCountEach(t *testing.T) {
	wantSum(t, lengthsAt(map[int]uint8{0: 16, last: 255}), 2*32769)
	wantSum(t, lengthsAt(map[int]uint8{0: 255, 1: 16, 2: 17, last: 16}), 4*32769)
	wantSum(t, lengthsAt(map[int]uint8{0: 1, 1: 1, last: 16}), 32768+32769)
	wantSum(t, lengthsAt(map[int]uint8{0: 15, last: 16}), 32770)
	for many := range api.Symbols + 1 {
		wantSum(t, evenly(16, many), many*32769)
		wantSum(t, evenly(255, many), many*32769)
	}
}

// Every choice of lengths for a few symbols, the others having none.
func TestSumOfAllLengthsOfFewSymbols(t *testing.T) {
	lengths := []uint8{0, 1, 2, 3, 8, 14, 15, 16, 255}
	for _, few := range [][]int{{0, 1, 256, last}, {3, 128, 255, 256}} {
		for pattern := range 9 * 9 * 9 * 9 {
			var l api.Lengths
			for _, s := range few {
				l[s] = lengths[pattern%9]
				pattern /= 9
			}
			wantSum(t, l, sum(l))
		}
	}
}

func TestSumFollowsTheDefinition(t *testing.T) {
	d := dice(5)
	for range 100 {
		for _, most := range []int{0, 1, 2, 7, 8, 14, 15, 16, 17, 255} {
			l := d.lengths(most)
			wantSum(t, l, sum(l))
		}
		l := d.fitting()
		wantSum(t, l, sum(l))
		l = d.complete(2 + d.roll(last))
		wantSum(t, l, limit)
	}
}

// P8.2: Counts

func TestCountsOfOrdinaryLengths(t *testing.T) {
	wantCounts(t, api.Lengths{3, 3, 2, 1}, [16]int{254, 1, 1, 2})
	wantCounts(t, lengthsAt(map[int]uint8{0: 1, 1: 2, 257: 2}), [16]int{255, 1, 2})
	wantCounts(t, steps(100), [16]int{243, 1, 1, 1, 1, 1, 1, 1, 1, 1, 1, 1, 1, 1, 1, 1})
}

func TestCountsOfNoneAndAll(t *testing.T) {
	wantCounts(t, api.Lengths{}, [16]int{api.Symbols})
	for length := range 16 {
		var want [16]int
		want[length] = api.Symbols
		wantCounts(t, all(uint8(length)), want)
	}
}

func TestCountsAtEverySymbol(t *testing.T) {
	for s := range api.Symbols {
		for length := range 256 {
			want := [16]int{api.Symbols - 1}
			if length < 16 {
				want[length]++
			}
			wantCounts(t, lengthsAt(map[int]uint8{s: uint8(length)}), want)
		}
	}
}

func TestCountsLeavesTooGreatLengthsOut(t *testing.T) {
	wantCounts(t, lengthsAt(map[int]uint8{0: 1, 1: 15, 2: 16, 3: 255}), [16]int{0: 254, 1: 1, 15: 1})
	for length := api.MaxCode + 1; length <= 255; length++ {
		wantCounts(t, all(uint8(length)), [16]int{})
		for many := range 5 {
			wantCounts(t, evenly(uint8(length), many), [16]int{api.Symbols - many})
		}
	}
}

func TestCountsFollowsTheDefinition(t *testing.T) {
	d := dice(6)
	for range 100 {
		for _, most := range []int{0, 1, 2, 8, 14, 15, 16, 17, 31, 255} {
			l := d.lengths(most)
			wantCounts(t, l, counts(l))
		}
		l := d.complete(2 + d.roll(last))
		wantCounts(t, l, counts(l))
	}
}

// P8.2: Cost

func TestCostOfOrdinaryTallies(t *testing.T) {
	wantCost(t, api.Histogram{1, 1, 2, 4}, api.Lengths{3, 3, 2, 1}, 14)
	wantCost(t, api.Histogram{1, 1, 2, 4}, api.Lengths{2, 2, 2, 2}, 16)
	wantCost(t, api.Histogram{7, 3}, api.Lengths{0, 15}, 45)
	wantCost(t, api.Histogram{1: 1, 3: 2, last: 1}, api.Lengths{1: 2, 3: 1, last: 2}, 6)
}

func TestCostOfNothing(t *testing.T) {
	wantCost(t, api.Histogram{}, api.Lengths{}, 0)
	wantCost(t, api.Histogram{}, all(15), 0)
	wantCost(t, api.Histogram{}, all(255), 0)
	wantCost(t, even(1), api.Lengths{}, 0)
	wantCost(t, even(api.MaxTotal), api.Lengths{}, 0)
}

func TestCostAtEverySymbol(t *testing.T) {
	for s := range api.Symbols {
		for _, many := range []int{1, 2, 1000, api.MaxTotal - 1, api.MaxTotal} {
			for _, length := range []uint8{0, 1, 2, 14, 15, 16, 17, 128, 255} {
				want := many * int(length)
				wantCost(t, tallyAt(map[int]int{s: many}), lengthsAt(map[int]uint8{s: length}), want)
				wantCost(t, tallyAt(map[int]int{s: many}), all(length), want)
				wantCost(t, tallyAt(map[int]int{s: many}), lengthsAt(map[int]uint8{(s + 1) % api.Symbols: length}), 0)
			}
		}
	}
}

func TestCostCountsTooGreatLengthsAsTheyAre(t *testing.T) {
	wantCost(t, api.Histogram{5, 2, 0, 1}, api.Lengths{1, 15, 16, 255}, 5+30+255)
	for length := range 256 {
		wantCost(t, even(1), all(uint8(length)), 258*length)
		wantCost(t, api.Histogram{0: 3, last: 1}, api.Lengths{0: uint8(length), last: 16}, 3*length+16)
	}
}

func TestCostBeyondMaxTotal(t *testing.T) {
	wantCost(t, tallyAt(map[int]int{0: api.MaxTotal}), all(2), 1<<32-2)
	wantCost(t, api.Histogram{0: api.MaxTotal, last: 1}, api.Lengths{0: 2, last: 2}, 1<<32)
	wantCost(t, even(api.MaxTotal), all(15), 258*15*(1<<31-1))
	wantCost(t, even(api.MaxTotal), all(255), 258*255*(1<<31-1))
}

func TestCostFollowsTheDefinition(t *testing.T) {
	d := dice(7)
	for range 100 {
		for _, most := range []int{1, 2, 10, 300, api.MaxTotal} {
			x, l, wide := d.tally(most), d.fitting(), d.lengths(255)
			wantCost(t, x, l, cost(x, l))
			wantCost(t, x, wide, cost(x, wide))
		}
	}
}

// The bound itself is allowed, and the next number is not.
func TestCostAtTheBoundsOfFrequencies(t *testing.T) {
	for s := range api.Symbols {
		others := cost(even(1), steps(100)) - int(steps(100)[s])
		for many, valid := range map[int]bool{-1: false, 0: true, api.MaxTotal: true, api.MaxTotal + 1: false} {
			x := even(1)
			x[s] = many
			if valid {
				wantCost(t, x, steps(100), others+many*int(steps(100)[s]))
			} else {
				wantCost(t, x, steps(100), 0)
			}
		}
	}
}

func TestCostOfInvalidTallies(t *testing.T) {
	d := dice(8)
	some := []api.Lengths{{}, {3, 3, 2, 1}, all(1), all(15), all(255), d.complete(100), d.lengths(255)}
	for _, x := range invalid() {
		if histogram.Valid(x) {
			t.Fatalf("valid: %v", shown(x[:]))
		}
		for _, l := range some {
			wantCost(t, x, l, 0)
		}
	}
}

// P8.2: Different

func TestDifferentOfNone(t *testing.T) {
	wantDifferent(t, 0)
	wantDifferent(t, 0, []api.Lengths{}...)
	wantDifferent(t, 0, []api.Lengths{{1}, {2}}[:0]...)
	var none []api.Lengths
	wantDifferent(t, 0, none...)
}

func TestDifferentOfOne(t *testing.T) {
	d := dice(9)
	for _, l := range []api.Lengths{{}, {1}, {0: 1, last: 1}, all(1), all(15), all(16), all(255), d.complete(90), d.lengths(255)} {
		wantDifferent(t, 1, l)
		wantDifferent(t, 1, l, l)
		wantDifferent(t, 1, l, l, l, l, l)
	}
}

func TestDifferentOfEqualAndDifferentOnes(t *testing.T) {
	a, b, c := api.Lengths{1, 1}, api.Lengths{1, 2}, api.Lengths{1, 2, 2}
	wantDifferent(t, 2, a, b)
	wantDifferent(t, 2, a, b, a)
	wantDifferent(t, 2, a, a, b)
	wantDifferent(t, 2, a, b, b)
	wantDifferent(t, 2, b, b, a, a)
	wantDifferent(t, 2, b, a, b, a)
	wantDifferent(t, 3, a, b, c)
	wantDifferent(t, 3, c, a, b, a, b, c, c)
	wantDifferent(t, 4, a, api.Lengths{}, b, c, api.Lengths{})
	wantDifferent(t, 4, api.Lengths{}, api.Lengths{}, b, a, c, b)
}

func TestDifferentAtEverySymbol(t *testing.T) {
	d := dice(10)
	for _, base := range []api.Lengths{{}, all(8), all(255), d.complete(200), d.lengths(255)} {
		some := []api.Lengths{base}
		for s := range api.Symbols {
			other := base
			other[s]++
			wantDifferent(t, 2, base, other)
			wantDifferent(t, 2, other, base)
			wantDifferent(t, 2, other, base, other)
			some = append(some, other)
		}
		wantDifferent(t, api.Symbols+1, some...)
		wantDifferent(t, api.Symbols+1, append(some, some...)...)
	}
}

// Each pair has the same sum, the same number of symbols, or lengths with the same low bits.
func TestDifferentComparesWholeLengths(t *testing.T) {
	wantDifferent(t, 2, api.Lengths{0: 1}, api.Lengths{last: 1})
	wantDifferent(t, 2, api.Lengths{1, 2}, api.Lengths{2, 1})
	wantDifferent(t, 2, api.Lengths{0: 1, last: 2}, api.Lengths{0: 2, last: 1})
	wantDifferent(t, 2, all(1), all(2))
	wantDifferent(t, 2, api.Lengths{5: 0}, api.Lengths{5: 16})
	wantDifferent(t, 2, api.Lengths{5: 1}, api.Lengths{5: 17})
	wantDifferent(t, 2, api.Lengths{5: 15}, api.Lengths{5: 255})
	wantDifferent(t, 3, all(16), all(17), all(255))
	wantDifferent(t, 2, api.Lengths{last: 254}, api.Lengths{last: 255}, api.Lengths{last: 254})
}

func TestDifferentOfManyLengths(t *testing.T) {
	var some []api.Lengths
	for length := range 256 {
		some = append(some, all(uint8(length)))
	}
	wantDifferent(t, 256, some...)
	slices.Reverse(some)
	wantDifferent(t, 256, append(some, some...)...)
	d := dice(11)
	for range 100 {
		pool := []api.Lengths{{}, all(16)}
		for range d.roll(10) {
			pool = append(pool, d.lengths(1), d.fitting())
		}
		var l []api.Lengths
		for range d.roll(30) {
			l = append(l, pool[d.roll(len(pool))])
		}
		wantDifferent(t, distinct(l), l...)
	}
}

func TestArgumentsAreNotChanged(t *testing.T) {
	whole := []api.Lengths{{3: 2}, {0: 16}, {0: 16}, {3: 2}, all(1), {last: 255}, {1: 1}}
	want := slices.Clone(whole)
	for n := range len(whole) + 1 {
		wantDifferent(t, distinct(want[:n]), whole[:n]...)
	}
	if !slices.Equal(whole, want) {
		t.Error("the lengths have changed")
	}
	l, x := api.Lengths{3: 2, last: 255}, api.Histogram{0: api.MaxTotal, last: -1}
	kraft.Sum(l)
	kraft.Fits(l)
	kraft.Complete(l)
	kraft.Table(l)
	kraft.Counts(l)
	kraft.Cost(x, l)
	if l != (api.Lengths{3: 2, last: 255}) || x != (api.Histogram{0: api.MaxTotal, last: -1}) {
		t.Errorf("the arguments are now %v, %v", shown(l[:]), shown(x[:]))
	}
}

func TestCallsLeaveNoTrace(t *testing.T) {
	d := dice(12)
	for range 100 {
		l, other, x := d.fitting(), d.lengths(255), d.tally(1000)
		c := kraft.Counts(other)
		clear(c[:])
		for range 2 {
			wantSum(t, l, sum(l))
			wantCounts(t, other, counts(other))
			wantCost(t, x, l, cost(x, l))
			wantDifferent(t, 2, l, other, l)
			wantDifferent(t, 1, l)
		}
	}
}

// P8.3

// some returns lengths that satisfy the Kraft inequality, the first ones complete.
func some() []api.Lengths {
	d := dice(13)
	l := []api.Lengths{{0: 1, last: 1}, {3, 3, 2, 1}, evenly(8, 256), evenly(7, 128), {0: 1, 1: 2, last: 2}}
	for symbols := 2; symbols <= api.Symbols; symbols++ {
		l = append(l, d.complete(symbols))
	}
	l = append(l, api.Lengths{}, api.Lengths{last: 1}, all(14), all(15), steps(0), steps(last))
	for range 300 {
		l = append(l, d.fitting())
	}
	return l
}

func TestIncreasingOneLengthPreservesTheInequality(t *testing.T) {
	for _, l := range some() {
		wantFits(t, l, true)
		for s, length := range l {
			if length < 1 || length > 14 {
				continue
			}
			longer := l
			longer[s]++
			wantFits(t, longer, true)
			wantComplete(t, longer, false)
			wantTable(t, longer, false)
			if kraft.Sum(longer) >= kraft.Sum(l) {
				t.Errorf("Sum(%v) is not less than with length %d for symbol %d", shown(longer[:]), length, s)
			}
		}
	}
}

// Only lengths between 1 and 14 can be increased: 0 takes no space, but 1 does, and 16 is too great.
func TestIncreasingOtherLengths(t *testing.T) {
	wantFits(t, api.Lengths{0: 1, 1: 1, last: 0}, true)
	wantFits(t, api.Lengths{0: 1, 1: 1, last: 1}, false)
	wantFits(t, api.Lengths{0: 1, last: 14}, true)
	wantFits(t, api.Lengths{0: 1, last: 15}, true)
	wantFits(t, api.Lengths{0: 1, last: 16}, false)
}

func TestTheGreatestLengthOfACompleteCodeIsThereInPairs(t *testing.T) {
	complete := 0
	for _, l := range some() {
		if !kraft.Complete(l) {
			continue
		}
		complete++
		if n := kraft.Counts(l)[greatest(l)]; n < 2 || n%2 != 0 {
			t.Errorf("Counts(%v): %d symbols of the greatest length", shown(l[:]), n)
		}
	}
	if complete < 257+5 {
		t.Errorf("only %d of the lengths are complete", complete)
	}
}

// With one symbol of the greatest length, or an odd number of them, no lengths are complete.
func TestAnOddNumberOfTheGreatestLengthIsNotComplete(t *testing.T) {
	d := dice(14)
	for range 300 {
		l := d.lengths(1 + d.roll(api.MaxCode))
		if n := counts(l)[greatest(l)]; n%2 == 1 {
			wantComplete(t, l, false)
		}
	}
	for many := 1; many < api.Symbols; many += 2 {
		for length := uint8(1); length <= api.MaxCode; length++ {
			wantComplete(t, evenly(length, many), false)
		}
	}
}

func TestASymbolWithoutACodeCanBeGivenTheGreatestLength(t *testing.T) {
	for _, l := range some() {
		for _, s := range places {
			if l[s] != 0 {
				continue
			}
			more := l
			more[s] = 15
			wantFits(t, more, kraft.Sum(l) < limit)
			wantComplete(t, more, kraft.Sum(l) == limit-1)
			if kraft.Sum(more) != kraft.Sum(l)+1 {
				t.Errorf("Sum(%v) is not one more than without symbol %d", shown(more[:]), s)
			}
		}
	}
}
