package histogram_test

import (
	"math"
	"slices"
	"testing"

	"winepress/api"
	"winepress/histogram"
)

const last = api.Symbols - 1

// wild holds numbers that are neither symbols nor frequencies; the low bits of some would be.
var wild = []int{
	math.MinInt, math.MinInt + 1, math.MinInt + 3, math.MinInt + 257, -1<<62 + 3, -1 << 62, -1<<32 + 3, -1 << 32, -1<<31 - 1, -1 << 31, -65536, -32768, -516, -259, -258, -257, -256, -255, -3, -2, -1,
	api.MaxTotal + 1, api.MaxTotal + 2, 1<<31 + 257, 1<<32 - 1, 1 << 32, 1<<32 + 3, 1<<40 + 3, 1 << 62, 1<<62 + 3, math.MaxInt - 1, math.MaxInt,
}

// strangers holds numbers that are not symbols.
var strangers = append([]int{
	api.Symbols, api.Symbols + 1, api.Symbols + 3, 511, 512, 515, 2 * api.Symbols, 2*api.Symbols + 3, 1024, 65535, 65536, 65539, 1<<24 + 3, api.MaxTotal - 1, api.MaxTotal,
}, wild...)

// places holds symbols at which a tally is looked at: the ends, those next to them, the bytes' ends and others.
var places = []int{0, 1, 2, 3, 100, 127, 128, 254, 255, 256, last}

// dice gives numbers that look thrown, the same ones in every run.
type dice uint64

func (d *dice) roll(sides int) int {
	*d = *d*6364136223846793005 + 1442695040888963407
	return int(uint64(*d) >> 33 % uint64(sides))
}

// symbols returns symbols out of the first kinds of them.
func (d *dice) symbols(many, kinds int) []int {
	l := make([]int, many)
	for i := range l {
		l[i] = d.roll(kinds)
	}
	return l
}

// tally returns a valid tally: each symbol has a frequency below most, and some of them 0.
func (d *dice) tally(most int) api.Histogram {
	var t api.Histogram
	for s := range t {
		if d.roll(3) > 0 {
			t[s] = d.roll(most)
		}
	}
	return t
}

// even returns the tally with one frequency for all symbols.
func even(many int) api.Histogram {
	var t api.Histogram
	for s := range t {
		t[s] = many
	}
	return t
}

// counted returns the tally of a list by its definition, symbol by symbol.
func counted(l []int) api.Histogram {
	var t api.Histogram
	for s := range t {
		for _, v := range l {
			if v == s {
				t[s]++
			}
		}
	}
	return t
}

// used returns the symbols of a valid tally with a frequency greater than 0.
func used(t api.Histogram) []int {
	var l []int
	for s := range api.Symbols {
		if t[s] != 0 {
			l = append(l, s)
		}
	}
	return l
}

// ranking follows the definition: the next symbol is always the least of those with the least frequency that is left.
func ranking(t api.Histogram) []int {
	var l []int
	for range used(t) {
		next := -1
		for s := last; s >= 0; s-- {
			if t[s] > 0 && (next < 0 || t[s] <= t[next]) {
				next = s
			}
		}
		l = append(l, next)
		t[next] = 0
	}
	return l
}

// invalid returns tallies with a frequency out of its bounds at one symbol, alone and among valid ones, and at several symbols.
func invalid() []api.Histogram {
	d := dice(1)
	var all []api.Histogram
	for _, n := range wild {
		for _, s := range places {
			one, filled, most := api.Histogram{}, d.tally(1000), even(api.MaxTotal)
			one[s], filled[s], most[s] = n, n, n
			all = append(all, one, filled, most)
		}
		all = append(all, even(n))
	}
	return append(all,
		api.Histogram{0: -1, last: 1},
		api.Histogram{0: 1, last: -1},
		api.Histogram{3: 5, 4: -2},
		api.Histogram{3: -1, 4: api.MaxTotal + 1},
		api.Histogram{0: math.MinInt, 1: math.MaxInt, 2: 1},
		api.Histogram{0: math.MinInt, last: math.MinInt},
	)
}

// shown holds the frequencies of a tally other than 0, for messages.
func shown(t api.Histogram) map[int]int {
	m := map[int]int{}
	for s, n := range t {
		if n != 0 {
			m[s] = n
		}
	}
	return m
}

func wantOf(t *testing.T, want api.Histogram, symbols ...int) {
	t.Helper()
	if o, e := histogram.Of(symbols...); o != want || e != api.OK {
		t.Errorf("Of(%d): %v, %d, want %v", symbols, shown(o), e, shown(want))
	}
}

func wantOfError(t *testing.T, symbols ...int) {
	t.Helper()
	if o, e := histogram.Of(symbols...); o != (api.Histogram{}) || e != api.ErrArg {
		t.Errorf("Of(%d): %v, %d, want a zero tally and ErrArg", symbols, shown(o), e)
	}
}

func wantAdd(t *testing.T, want, x api.Histogram, symbols ...int) {
	t.Helper()
	if o, e := histogram.Add(x, symbols...); o != want || e != api.OK {
		t.Errorf("Add(%v, %d): %v, %d, want %v", shown(x), symbols, shown(o), e, shown(want))
	}
}

func wantAddError(t *testing.T, x api.Histogram, symbols ...int) {
	t.Helper()
	if o, e := histogram.Add(x, symbols...); o != x || e != api.ErrArg {
		t.Errorf("Add(%v, %d): %v, %d, want it unchanged and ErrArg", shown(x), symbols, shown(o), e)
	}
}

func wantValid(t *testing.T, x api.Histogram, want bool) {
	t.Helper()
	if histogram.Valid(x) != want {
		t.Errorf("Valid(%v): %v", shown(x), !want)
	}
}

func wantSum(t *testing.T, x api.Histogram, want int) {
	t.Helper()
	if n := histogram.Sum(x); n != want {
		t.Errorf("Sum(%v): %d, want %d", shown(x), n, want)
	}
}

func wantUsed(t *testing.T, x api.Histogram, want ...int) {
	t.Helper()
	if l := histogram.Used(x); !slices.Equal(l, want) {
		t.Errorf("Used(%v): %d, want %d", shown(x), l, want)
	}
}

func wantRanks(t *testing.T, x api.Histogram, want ...int) {
	t.Helper()
	if l := histogram.Ranks(x); !slices.Equal(l, want) {
		t.Errorf("Ranks(%v): %d, want %d", shown(x), l, want)
	}
}

func wantDifferent(t *testing.T, want int, l ...api.Histogram) {
	t.Helper()
	if n := histogram.Different(l...); n != want {
		t.Errorf("Different of %d tallies: %d, want %d", len(l), n, want)
	}
}

// P6.1: Of

func TestOfTheExample(t *testing.T) {
	wantOf(t, api.Histogram{1: 1, 3: 2, last: 1}, 3, 1, 3, 257)
}

func TestOfNothing(t *testing.T) {
	wantOf(t, api.Histogram{})
	wantOf(t, api.Histogram{}, []int{}...)
	wantOf(t, api.Histogram{}, []int{-1, 3}[:0]...)
	var none []int
	wantOf(t, api.Histogram{}, none...)
}

func TestOfEverySymbol(t *testing.T) {
	var all []int
	for s := range api.Symbols {
		var want api.Histogram
		want[s] = 1
		wantOf(t, want, s)
		want[s] = 3
		wantOf(t, want, s, s, s)
		all = append(all, s)
	}
	wantOf(t, even(1), all...)
	wantOf(t, even(2), append(all, all...)...)
}

func TestOfTheEnds(t *testing.T) {
	wantOf(t, api.Histogram{0: 1, last: 1}, 0, last)
	wantOf(t, api.Histogram{0: 2, last: 1}, 0, last, 0)
	wantOf(t, api.Histogram{0: 1, last: 2}, last, last, 0)
	wantOfError(t, -1)
	wantOfError(t, api.Symbols)
}

func TestOfFollowsTheDefinition(t *testing.T) {
	d := dice(2)
	for many := range 200 {
		for _, kinds := range []int{1, 2, 3, 20, 256, api.Symbols} {
			l := d.symbols(many, kinds)
			wantOf(t, counted(l), l...)
		}
	}
}

func TestOfManySymbols(t *testing.T) {
	d := dice(3)
	l := d.symbols(300000, api.Symbols)
	if o, e := histogram.Of(l...); o != counted(l) || e != api.OK {
		t.Errorf("%v, %d", shown(o), e)
	}
	same := slices.Repeat([]int{last}, 300000)
	if o, e := histogram.Of(same...); o != (api.Histogram{last: 300000}) || e != api.OK {
		t.Errorf("%v, %d", shown(o), e)
	}
}

func TestOfRefusesNumbersThatAreNotSymbols(t *testing.T) {
	for _, n := range strangers {
		wantOfError(t, n)
		wantOfError(t, n, 3)
		wantOfError(t, 3, n)
		wantOfError(t, 3, 1, n, 257, 3)
		wantOfError(t, n, 0, 1, 2)
		wantOfError(t, 0, 1, 2, n)
		wantOfError(t, n, n)
		for _, other := range strangers {
			wantOfError(t, n, other)
			wantOfError(t, 3, n, 3, other)
		}
	}
}

func TestOfRefusesAStrangerAtEveryPlace(t *testing.T) {
	for at := range 100 {
		for _, n := range []int{-1, api.Symbols} {
			l := slices.Repeat([]int{5}, 100)
			l[at] = n
			wantOfError(t, l...)
		}
	}
}

// P6.1: Valid

func TestValidOfFrequenciesWithinTheBounds(t *testing.T) {
	for _, n := range []int{0, 1, 2, 255, 256, 65536, 1 << 30, api.MaxTotal - 1, api.MaxTotal} {
		wantValid(t, even(n), true)
		for s := range api.Symbols {
			var one api.Histogram
			one[s] = n
			wantValid(t, one, true)
		}
	}
	wantValid(t, api.Histogram{}, true)
}

func TestValidAtTheEdges(t *testing.T) {
	for s := range api.Symbols {
		for n, want := range map[int]bool{-1: false, 0: true, api.MaxTotal: true, api.MaxTotal + 1: false} {
			for _, x := range []api.Histogram{{}, even(1), even(api.MaxTotal)} {
				x[s] = n
				wantValid(t, x, want)
			}
		}
	}
}

func TestValidOfInvalidTallies(t *testing.T) {
	for _, x := range invalid() {
		wantValid(t, x, false)
	}
}

// P6.1: Add

func TestAddNothing(t *testing.T) {
	d := dice(4)
	for _, x := range []api.Histogram{{}, {3: 2, last: 1}, even(api.MaxTotal), even(api.MaxTotal - 1), d.tally(api.MaxTotal)} {
		wantAdd(t, x, x)
		wantAdd(t, x, x, []int{}...)
		wantAdd(t, x, x, []int{-1, 3}[:0]...)
	}
}

func TestAddEverySymbol(t *testing.T) {
	d := dice(5)
	for s := range api.Symbols {
		for _, x := range []api.Histogram{{}, even(7), d.tally(1000)} {
			want := x
			want[s]++
			wantAdd(t, want, x, s)
			want[s]++
			wantAdd(t, want, x, s, s)
		}
	}
}

func TestAddFollowsTheDefinition(t *testing.T) {
	d := dice(6)
	for range 300 {
		x, l := d.tally(1+d.roll(api.MaxTotal-1000)), d.symbols(d.roll(200), 1+d.roll(api.Symbols))
		want := x
		for s, n := range counted(l) {
			want[s] += n
		}
		wantAdd(t, want, x, l...)
	}
}

func TestAddInPartsIsOfTheWhole(t *testing.T) {
	d := dice(7)
	l := d.symbols(150, 20)
	want, _ := histogram.Of(l...)
	for at := range len(l) + 1 {
		first, _ := histogram.Of(l[:at]...)
		wantAdd(t, want, first, l[at:]...)
		rest, _ := histogram.Of(l[at:]...)
		wantAdd(t, want, rest, l[:at]...)
	}
	var x api.Histogram
	for i, s := range l {
		var e api.Errno
		if x, e = histogram.Add(x, s); x != counted(l[:i+1]) || e != api.OK {
			t.Fatalf("after %d symbols: %v, %d", i+1, shown(x), e)
		}
	}
}

func TestAddUpToMaxTotal(t *testing.T) {
	for _, s := range places {
		other := (s + 129) % api.Symbols
		for below := range 5 {
			var x api.Histogram
			x[s] = api.MaxTotal - below
			want := x
			want[s] = api.MaxTotal
			enough := slices.Repeat([]int{s}, below)
			wantAdd(t, want, x, enough...)
			wantAddError(t, x, append(enough, s)...)
			wantAddError(t, x, append(enough, s, s, s)...)
			want[other] = 2
			wantAdd(t, want, x, append(append([]int{other}, enough...), other)...)
			wantAddError(t, x, append(append([]int{other}, enough...), s, other)...)
			wantAddError(t, x, append(append([]int{s, other}, enough...), other)...)
			wantAddError(t, x, append(append([]int{other, other}, enough...), s)...)
		}
	}
}

func TestAddToAFullTally(t *testing.T) {
	for s := range api.Symbols {
		full := even(api.MaxTotal)
		wantAddError(t, full, s)
		nearly := full
		nearly[s]--
		wantAdd(t, full, nearly, s)
		wantAddError(t, nearly, s, s)
		wantAddError(t, nearly, (s+1)%api.Symbols)
	}
}

// A frequency is limited, the sum of all is not.
func TestAddBeyondASumOfMaxTotal(t *testing.T) {
	wantAdd(t, api.Histogram{0: api.MaxTotal, last: 1}, api.Histogram{0: api.MaxTotal}, last)
	wantAdd(t, api.Histogram{5: api.MaxTotal, 4: api.MaxTotal}, api.Histogram{5: api.MaxTotal, 4: api.MaxTotal - 1}, 4)
	full := even(api.MaxTotal)
	nearly := full
	nearly[100]--
	wantAdd(t, full, nearly, 100)
}

func TestAddRefusesNumbersThatAreNotSymbols(t *testing.T) {
	d := dice(8)
	for _, n := range strangers {
		for _, x := range []api.Histogram{{}, {3: 2, last: 1}, even(5), even(api.MaxTotal), d.tally(1000)} {
			wantAddError(t, x, n)
			wantAddError(t, x, n, 3)
			wantAddError(t, x, 3, n)
			wantAddError(t, x, 3, 1, n, 257, 3)
			wantAddError(t, x, n, n)
		}
	}
}

func TestAddRefusesInvalidTallies(t *testing.T) {
	for _, x := range invalid() {
		wantAddError(t, x)
		wantAddError(t, x, 0)
		wantAddError(t, x, 3, last, 100)
		wantAddError(t, x, -1)
		wantAddError(t, x, 3, api.Symbols)
	}
	for _, s := range places {
		var x api.Histogram
		x[s] = -1
		wantAddError(t, x, s)
		wantAddError(t, x, s, s)
		x[s] = api.MaxTotal + 1
		wantAddError(t, x, s)
		wantAddError(t, x, (s+1)%api.Symbols)
	}
}

func TestArgumentsAreNotChanged(t *testing.T) {
	x := api.Histogram{3: 2, last: api.MaxTotal}
	for _, whole := range [][]int{{3, 1, 3, 100, 0, 2}, {3, 1, -1, 100, 0, 2}, {last, 1, 3, 100, 0, 2}, {9, 1, 3, api.Symbols, 0, 2}} {
		want := slices.Clone(whole)
		for n := range len(whole) + 1 {
			histogram.Of(whole[:n]...)
			histogram.Add(x, whole[:n]...)
			histogram.Add(api.Histogram{0: -1}, whole[:n]...)
		}
		if !slices.Equal(whole, want) {
			t.Errorf("the symbols are now %d, were %d", whole, want)
		}
	}
	histogram.Sum(x)
	histogram.Used(x)
	histogram.Ranks(x)
	if x != (api.Histogram{3: 2, last: api.MaxTotal}) {
		t.Errorf("the tally is now %v", shown(x))
	}
}

func TestSymbolsAreNotKept(t *testing.T) {
	l := []int{3, 1, 3, 257}
	o, _ := histogram.Of(l...)
	grown, _ := histogram.Add(o, l...)
	clear(l)
	wantOf(t, o, 3, 1, 3, 257)
	wantAdd(t, grown, o, 257, 3, 1, 3)
	wantOf(t, api.Histogram{0: 4}, l...)
	wantOf(t, api.Histogram{})
}

// P6.1: Sum

func TestSum(t *testing.T) {
	wantSum(t, api.Histogram{1: 1, 3: 2, last: 1}, 4)
	wantSum(t, api.Histogram{}, 0)
	wantSum(t, even(1), api.Symbols)
	for s := range api.Symbols {
		var x api.Histogram
		for _, n := range []int{1, 2, 300, api.MaxTotal - 1, api.MaxTotal} {
			x[s] = n
			wantSum(t, x, n)
		}
	}
}

func TestSumBeyondMaxTotal(t *testing.T) {
	wantSum(t, api.Histogram{0: api.MaxTotal, last: 1}, 1<<31)
	wantSum(t, api.Histogram{0: api.MaxTotal, 1: 1, last: api.MaxTotal}, 1<<32-1)
	wantSum(t, api.Histogram{0: api.MaxTotal, 1: 2, last: api.MaxTotal}, 1<<32)
	wantSum(t, even(api.MaxTotal), 258*(1<<31-1))
	wantSum(t, even(1<<30), 258*1<<30)
}

func TestSumIsTheNumberOfSymbols(t *testing.T) {
	d := dice(9)
	for many := range 300 {
		o, _ := histogram.Of(d.symbols(many, 1+d.roll(api.Symbols))...)
		wantSum(t, o, many)
	}
}

func TestSumOfThrownTallies(t *testing.T) {
	d := dice(10)
	for range 300 {
		x, want := d.tally(1+d.roll(api.MaxTotal)), 0
		for s := last; s >= 0; s-- {
			want += x[s]
		}
		wantSum(t, x, want)
	}
}

func TestSumOfInvalidTallies(t *testing.T) {
	for _, x := range invalid() {
		wantSum(t, x, 0)
	}
}

// P6.2: Used and Ranks

func TestUsedAndRanksOfTheExample(t *testing.T) {
	x := api.Histogram{1: 1, 3: 2, last: 1}
	wantUsed(t, x, 1, 3, last)
	wantRanks(t, x, 1, last, 3)
}

func TestUsedAndRanksOfNothing(t *testing.T) {
	wantUsed(t, api.Histogram{})
	wantRanks(t, api.Histogram{})
}

func TestUsedAndRanksOfOneSymbol(t *testing.T) {
	for s := range api.Symbols {
		for _, n := range []int{1, 2, api.MaxTotal - 1, api.MaxTotal} {
			var x api.Histogram
			x[s] = n
			wantUsed(t, x, s)
			wantRanks(t, x, s)
		}
	}
}

func TestRanksOfAllSymbolsWithTheSameFrequency(t *testing.T) {
	for _, n := range []int{1, 2, 255, 256, 65536, api.MaxTotal - 1, api.MaxTotal} {
		x := even(n)
		wantUsed(t, x, used(x)...)
		wantRanks(t, x, used(x)...)
		for _, s := range places {
			less, more := x, x
			less[s], more[s] = n-1, n+1
			others := slices.DeleteFunc(used(x), func(v int) bool { return v == s })
			if n > 1 {
				wantRanks(t, less, append([]int{s}, others...)...)
			}
			if n < api.MaxTotal {
				wantRanks(t, more, append(others, s)...)
			}
		}
	}
}

func TestRanksOfEqualFrequenciesFarApart(t *testing.T) {
	wantRanks(t, api.Histogram{0: 4, last: 4}, 0, last)
	wantRanks(t, api.Histogram{0: 4, 128: 5, last: 4}, 0, last, 128)
	wantRanks(t, api.Histogram{0: 4, 128: 3, last: 4}, 128, 0, last)
	wantRanks(t, api.Histogram{0: 9, 1: 4, 100: 2, 200: 4, 255: 2, 256: 9, last: 4}, 100, 255, 1, 200, last, 0, 256)
	wantRanks(t, api.Histogram{0: api.MaxTotal, 1: 1, 256: 1, last: api.MaxTotal}, 1, 256, 0, last)
}

func TestRanksOfRisingAndFallingFrequencies(t *testing.T) {
	var rising, falling api.Histogram
	for s := range api.Symbols {
		rising[s], falling[s] = s+1, api.MaxTotal-s
	}
	symbols := used(rising)
	wantRanks(t, rising, symbols...)
	slices.Reverse(symbols)
	wantRanks(t, falling, symbols...)
}

func TestRanksComparesWholeFrequencies(t *testing.T) {
	wantRanks(t, api.Histogram{0: 256, 1: 1}, 1, 0)
	wantRanks(t, api.Histogram{0: 65536, 1: 1}, 1, 0)
	wantRanks(t, api.Histogram{0: 1 << 24, 1: 3}, 1, 0)
	wantRanks(t, api.Histogram{0: api.MaxTotal, 1: api.MaxTotal - 1, 2: 1}, 2, 1, 0)
	wantRanks(t, api.Histogram{0: 10, 1: 9, 2: 100}, 1, 0, 2)
}

func TestUsedAndRanksFollowTheDefinition(t *testing.T) {
	d := dice(11)
	for range 100 {
		for _, most := range []int{1, 2, 3, 4, 10, 300, api.MaxTotal} {
			x := d.tally(most)
			wantUsed(t, x, used(x)...)
			wantRanks(t, x, ranking(x)...)
		}
	}
}

func TestUsedAndRanksOfAllSmallTallies(t *testing.T) {
	few := []int{0, 1, 128, 256, last}
	for pattern := range 4 * 4 * 4 * 4 * 4 {
		var x api.Histogram
		for _, s := range few {
			x[s] = pattern % 4
			pattern /= 4
		}
		wantUsed(t, x, used(x)...)
		wantRanks(t, x, ranking(x)...)
	}
}

func TestUsedAndRanksOfInvalidTallies(t *testing.T) {
	for _, x := range invalid() {
		wantUsed(t, x)
		wantRanks(t, x)
	}
}

func TestUsedAndRanksReturnNewMemory(t *testing.T) {
	x := api.Histogram{1: 1, 3: 2, last: 1}
	results := [][]int{histogram.Used(x), histogram.Used(x), histogram.Ranks(x), histogram.Ranks(x)}
	for i, l := range results {
		l = l[:cap(l)]
		for at := range l {
			l[at] = -1 - i
		}
	}
	for i, l := range results {
		if !slices.Equal(l, []int{-1 - i, -1 - i, -1 - i}) {
			t.Errorf("result %d shares memory with another: %d", i, l)
		}
	}
	wantUsed(t, x, 1, 3, last)
	wantRanks(t, x, 1, last, 3)
}

// P6.2: Different

// distinct counts the tallies that none before them is equal to, symbol by symbol.
func distinct(l []api.Histogram) int {
	many := 0
	for i := range l {
		if !slices.ContainsFunc(l[:i], func(other api.Histogram) bool { return slices.Equal(other[:], l[i][:]) }) {
			many++
		}
	}
	return many
}

func TestDifferentOfNone(t *testing.T) {
	wantDifferent(t, 0)
	wantDifferent(t, 0, []api.Histogram{}...)
	wantDifferent(t, 0, []api.Histogram{{1: 1}, {2: 1}}[:0]...)
	var none []api.Histogram
	wantDifferent(t, 0, none...)
}

func TestDifferentOfOne(t *testing.T) {
	for _, x := range append(invalid(), api.Histogram{}, api.Histogram{3: 1}, even(1), even(api.MaxTotal)) {
		wantDifferent(t, 1, x)
		wantDifferent(t, 1, x, x)
		wantDifferent(t, 1, x, x, x, x, x)
	}
}

func TestDifferentOfEqualAndDifferentOnes(t *testing.T) {
	a, b, c := api.Histogram{3: 1}, api.Histogram{3: 2}, api.Histogram{4: 1}
	wantDifferent(t, 2, a, b)
	wantDifferent(t, 2, a, b, a)
	wantDifferent(t, 2, a, a, b, b)
	wantDifferent(t, 2, b, a, b, a)
	wantDifferent(t, 3, a, b, c)
	wantDifferent(t, 3, c, a, b, a, b, c, c)
	wantDifferent(t, 4, a, api.Histogram{}, b, c, api.Histogram{})
	wantDifferent(t, 3, b, b, a, c, a)
}

func TestDifferentAtEverySymbol(t *testing.T) {
	d := dice(12)
	base := d.tally(1000)
	all := []api.Histogram{base}
	for s := range api.Symbols {
		other := base
		other[s]++
		wantDifferent(t, 2, base, other)
		wantDifferent(t, 2, other, base, other)
		all = append(all, other)
	}
	wantDifferent(t, api.Symbols+1, all...)
	wantDifferent(t, api.Symbols+1, append(all, all...)...)
}

func TestDifferentOfInvalidOnes(t *testing.T) {
	low, high := api.Histogram{0: -1}, api.Histogram{0: api.MaxTotal + 1}
	wantDifferent(t, 2, low, high)
	wantDifferent(t, 3, low, api.Histogram{}, high, low)
	wantDifferent(t, 2, low, api.Histogram{0: -2})
	wantDifferent(t, 2, high, api.Histogram{0: api.MaxTotal})
	wantDifferent(t, 2, low, api.Histogram{last: -1}, low)
	all := invalid()
	wantDifferent(t, distinct(all), all...)
}

// Each pair has the same sum, the same symbols, or numbers with the same low bits.
func TestDifferentComparesWholeTallies(t *testing.T) {
	wantDifferent(t, 2, api.Histogram{0: 1, 1: 2}, api.Histogram{0: 2, 1: 1})
	wantDifferent(t, 2, api.Histogram{0: 1}, api.Histogram{last: 1})
	wantDifferent(t, 2, even(1), even(2))
	wantDifferent(t, 2, api.Histogram{5: 1}, api.Histogram{5: 257})
	wantDifferent(t, 2, api.Histogram{5: 1}, api.Histogram{5: 1 + 1<<32})
	wantDifferent(t, 2, api.Histogram{5: 0}, api.Histogram{5: math.MinInt})
	wantDifferent(t, 2, api.Histogram{5: -1}, api.Histogram{5: math.MaxInt})
}

func TestDifferentOfThrownTallies(t *testing.T) {
	d := dice(13)
	for range 100 {
		pool := []api.Histogram{{}, {0: -1}}
		for range d.roll(10) {
			pool = append(pool, d.tally(1+d.roll(3)))
		}
		var l []api.Histogram
		for range d.roll(30) {
			l = append(l, pool[d.roll(len(pool))])
		}
		wantDifferent(t, distinct(l), l...)
	}
}

func TestDifferentDoesNotChangeItsArguments(t *testing.T) {
	whole := []api.Histogram{{3: 2}, {0: -1}, {3: 2}, even(1), {last: api.MaxTotal + 1}, {1: 1}}
	want := slices.Clone(whole)
	for n := range len(whole) + 1 {
		wantDifferent(t, distinct(whole[:n]), whole[:n]...)
	}
	if !slices.Equal(whole, want) {
		t.Error("the tallies have changed")
	}
}

// P6.3

// orders calls f with every order of a list.
func orders(l []int, f func([]int)) {
	if len(l) == 0 {
		f(nil)
		return
	}
	for i, first := range l {
		rest := append(slices.Clone(l[:i]), l[i+1:]...)
		orders(rest, func(others []int) { f(append([]int{first}, others...)) })
	}
}

func TestEveryOrderGivesTheSameTally(t *testing.T) {
	base := api.Histogram{3: 5, last: 1}
	for _, l := range [][]int{{}, {0, last}, {3, 1, 3, 257}, {0, 1, 2, 255, 256, last}, {5, 5, 5, 6, 6, 0}} {
		want, grown := counted(l), base
		for s, n := range want {
			grown[s] += n
		}
		orders(l, func(o []int) {
			wantOf(t, want, o...)
			wantAdd(t, grown, base, o...)
		})
	}
}

func TestEveryOrderGivesTheSameError(t *testing.T) {
	full := api.Histogram{3: api.MaxTotal - 1}
	for _, l := range [][]int{{3, 3}, {3, 1, 3, 257}, {3, 3, 3, 0}, {0, 1, -1, 3}, {3, api.Symbols, 3, 1}} {
		orders(l, func(o []int) { wantAddError(t, full, o...) })
	}
	for _, l := range [][]int{{0, -1}, {3, 1, api.Symbols, 257}, {-1, 0, api.Symbols, 5}} {
		orders(l, func(o []int) { wantOfError(t, o...) })
	}
}

func TestThrownOrdersGiveTheSameTally(t *testing.T) {
	d := dice(14)
	for range 100 {
		l := d.symbols(d.roll(1000), 1+d.roll(api.Symbols))
		want, _ := histogram.Of(l...)
		slices.Reverse(l)
		wantOf(t, want, l...)
		slices.Sort(l)
		wantOf(t, want, l...)
		for i := range l {
			other := d.roll(i + 1)
			l[i], l[other] = l[other], l[i]
		}
		wantOf(t, want, l...)
	}
}

func TestRanksIsAPermutationOfUsedThatNeverDecreases(t *testing.T) {
	d := dice(15)
	for range 300 {
		x := d.tally(1 + d.roll(1+d.roll(1+d.roll(api.MaxTotal))))
		ranks := histogram.Ranks(x)
		for i := range ranks[min(1, len(ranks)):] {
			a, b := ranks[i], ranks[i+1]
			if x[a] > x[b] || x[a] == x[b] && a >= b {
				t.Errorf("Ranks(%v): %d is before %d", shown(x), a, b)
			}
		}
		slices.Sort(ranks)
		wantUsed(t, x, ranks...)
	}
}
