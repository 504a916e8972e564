package packagemerge_test

import (
	"cmp"
	"math"
	"slices"
	"testing"

	"winepress/api"
	"winepress/packagemerge"
)

const last = api.Symbols - 1

// wild holds numbers that are neither counts nor limits; the low bits of some would be.
var wild = []int{
	math.MinInt, math.MinInt + 1, math.MinInt + 5, math.MinInt + 15, -1 << 62, -1<<62 + 5, -1<<40 + 7, -1<<32 + 5, -1 << 32, -1<<31 - 1, -1 << 31, -65531, -32768, -256, -251, -249, -64, -59, -32, -16, -15, -9, -3, -2, -1,
	api.MaxTotal + 1, api.MaxTotal + 2, 1<<31 + 9, 1<<32 - 1, 1 << 32, 1<<32 + 5, 1<<40 + 9, 1 << 62, 1<<62 + 5, math.MaxInt - 1, math.MaxInt,
}

// noLimits holds numbers that are not limits.
var noLimits = append([]int{
	0, api.MaxCode + 1, 17, 20, 31, 32, 33, 47, 63, 64, 65, 79, 127, 128, 255, 256, 257, 264, 1024, 1<<15 + 9, 65536, 65541, 1 << 24, api.MaxTotal - 1, api.MaxTotal,
}, wild...)

// places holds symbols at which a tally is looked at: the ends, those next to them, the bytes' ends and others.
var places = []int{0, 1, 2, 3, 100, 127, 128, 254, 255, 256, last}

// dice gives numbers that look thrown, the same ones in every run.
type dice uint64

func (d *dice) roll(sides int) int {
	*d = *d*6364136223846793005 + 1442695040888963407
	return int(uint64(*d) >> 33 % uint64(sides))
}

// tally returns a valid tally with that many symbols, each with a count of at most most.
func (d *dice) tally(symbols, most int) api.Histogram {
	var t api.Histogram
	for symbols > 0 {
		if s := d.roll(api.Symbols); t[s] == 0 {
			t[s] = 1 + d.roll(most)
			symbols--
		}
	}
	return t
}

// steep returns a valid tally with that many symbols, whose counts are of very different sizes.
func (d *dice) steep(symbols int) api.Histogram {
	t := d.tally(symbols, 1)
	for s := range t {
		if t[s] > 0 {
			t[s] += d.roll(1 << d.roll(31))
		}
	}
	return t
}

// lengths returns lengths up to most for all symbols.
func (d *dice) lengths(most int) api.Lengths {
	var l api.Lengths
	for s := range l {
		l[s] = uint8(d.roll(most + 1))
	}
	return l
}

// of returns the tally with these counts, from symbol 0 on.
func of(counts ...int) api.Histogram {
	var t api.Histogram
	copy(t[:], counts)
	return t
}

// tallyAt returns the tally with these counts.
func tallyAt(counts map[int]int) api.Histogram {
	var t api.Histogram
	for s, n := range counts {
		t[s] = n
	}
	return t
}

// lengthsAt returns these lengths.
func lengthsAt(lengths map[int]uint8) api.Lengths {
	var l api.Lengths
	for s, n := range lengths {
		l[s] = n
	}
	return l
}

// evenLengths returns one length for all symbols.
func evenLengths(length uint8) api.Lengths {
	var l api.Lengths
	for s := range l {
		l[s] = length
	}
	return l
}

// evenly returns the tally with one count for all symbols from one to another.
func evenly(count, from, to int) api.Histogram {
	var t api.Histogram
	for s := from; s <= to; s++ {
		t[s] = count
	}
	return t
}

// even returns the tally with one count for all symbols.
func even(count int) api.Histogram { return evenly(count, 0, last) }

// fibonacci returns the tally of that many symbols, from symbol 0 on, each of whose counts is the sum of the two before it.
func fibonacci(symbols int) api.Histogram {
	var t api.Histogram
	a, b := 1, 1
	for s := range symbols {
		t[s] = a
		a, b = b, a+b
	}
	return t
}

// invalid returns tallies with a count out of its bounds at one symbol, alone and among valid ones, and at several symbols.
func invalid() []api.Histogram {
	d := dice(1)
	var all []api.Histogram
	for _, n := range wild {
		for _, s := range places {
			one, filled, most := api.Histogram{}, d.tally(90, 1000), even(api.MaxTotal)
			one[s], filled[s], most[s] = n, n, n
			all = append(all, one, filled, most)
		}
		all = append(all, even(n))
	}
	return append(all,
		of(1, -1),
		of(-1, 1),
		api.Histogram{0: -1, last: 1},
		api.Histogram{0: 1, last: -1},
		api.Histogram{3: -1, 4: api.MaxTotal + 1},
		api.Histogram{0: math.MinInt, 1: math.MaxInt, 2: 1},
		api.Histogram{0: math.MinInt, last: math.MinInt},
	)
}

// ordered follows the definition: the next symbol is always the least of those with the least count that is left.
func ordered(t api.Histogram) []int {
	var l []int
	for {
		next := -1
		for s := last; s >= 0; s-- {
			if t[s] > 0 && (next < 0 || t[s] <= t[next]) {
				next = s
			}
		}
		if next < 0 {
			return l
		}
		l = append(l, next)
		t[next] = 0
	}
}

// node is an item of a row: a leaf with its symbol, or a package with its two items.
type node struct {
	weight, symbol int
	pair           []*node
}

// count adds 1 to the length of a leaf, or of each leaf inside a package.
func (n *node) count(l *api.Lengths) {
	if n.pair == nil {
		l[n.symbol]++
	}
	for _, part := range n.pair {
		part.count(l)
	}
}

// row returns the row of a tally with that number, by its definition.
func row(t api.Histogram, number int) []*node {
	var leaves []*node
	for _, s := range ordered(t) {
		leaves = append(leaves, &node{weight: t[s], symbol: s})
	}
	row := leaves
	for range number - 1 {
		next := slices.Clone(leaves)
		for pair := range slices.Chunk(row, 2) {
			if len(pair) == 2 {
				next = append(next, &node{weight: pair[0].weight + pair[1].weight, pair: pair})
			}
		}
		slices.SortStableFunc(next, func(a, b *node) int { return cmp.Compare(a.weight, b.weight) })
		row = next
	}
	return row
}

// defined returns the lengths of a valid tally for a limit by their definition, or false if the limit allows fewer symbols.
func defined(t api.Histogram, limit int) (l api.Lengths, ok bool) {
	symbols := ordered(t)
	switch {
	case float64(len(symbols)) > math.Pow(2, float64(limit)):
		return l, false
	case len(symbols) == 1:
		l[symbols[0]] = 1
	case len(symbols) > 1:
		for _, item := range row(t, limit)[:2*len(symbols)-2] {
			item.count(&l)
		}
	}
	return l, true
}

// total is the sum that Total is to return for a valid tally.
func total(t api.Histogram, l api.Lengths) int {
	sum := 0
	for s := range api.Symbols {
		for range l[s] {
			sum += t[s]
		}
	}
	return sum
}

// kraft returns the sum of 2^-length over the symbols with a length, as a multiple of 2^-MaxCode. It is too great if a length is.
func kraft(l api.Lengths) int {
	sum := 0
	for _, length := range l {
		if length > api.MaxCode {
			return math.MaxInt
		}
		if length > 0 {
			sum += 1 << (api.MaxCode - length)
		}
	}
	return sum
}

// shown holds the numbers other than 0, for messages.
func shown[N int | uint8](l []N) map[int]N {
	m := map[int]N{}
	for s, n := range l {
		if n != 0 {
			m[s] = n
		}
	}
	return m
}

func wantLengths(t *testing.T, x api.Histogram, limit int, want api.Lengths) {
	t.Helper()
	if l, e := packagemerge.Lengths(x, limit); l != want || e != api.OK {
		t.Errorf("Lengths(%v, %d): %v, %d, want %v", shown(x[:]), limit, shown(l[:]), e, shown(want[:]))
	}
}

func wantLengthsError(t *testing.T, x api.Histogram, limit int) {
	t.Helper()
	if l, e := packagemerge.Lengths(x, limit); l != (api.Lengths{}) || e != api.ErrArg {
		t.Errorf("Lengths(%v, %d): %v, %d, want zeros and ErrArg", shown(x[:]), limit, shown(l[:]), e)
	}
}

// wantDefined compares with the definition, for every limit.
func wantDefined(t *testing.T, x api.Histogram) {
	t.Helper()
	for limit := 1; limit <= api.MaxCode; limit++ {
		if l, ok := defined(x, limit); ok {
			wantLengths(t, x, limit, l)
		} else {
			wantLengthsError(t, x, limit)
		}
	}
}

func wantOrder(t *testing.T, x api.Histogram, want ...int) {
	t.Helper()
	if l := packagemerge.Order(x); !slices.Equal(l, want) {
		t.Errorf("Order(%v): %d, want %d", shown(x[:]), l, want)
	}
}

func wantTotal(t *testing.T, x api.Histogram, l api.Lengths, want int) {
	t.Helper()
	if n := packagemerge.Total(x, l); n != want {
		t.Errorf("Total(%v, %v): %d, want %d", shown(x[:]), shown(l[:]), n, want)
	}
}

func wantValid(t *testing.T, x api.Histogram, want bool) {
	t.Helper()
	if packagemerge.Valid(x) != want {
		t.Errorf("Valid(%v): %v", shown(x[:]), !want)
	}
}

// P7.1: Valid

func TestValidOfCountsWithinTheBounds(t *testing.T) {
	wantValid(t, api.Histogram{}, true)
	for _, n := range []int{0, 1, 2, 255, 256, 65536, 1 << 30, api.MaxTotal - 1, api.MaxTotal} {
		wantValid(t, even(n), true)
		for s := range api.Symbols {
			wantValid(t, evenly(n, s, s), true)
		}
	}
}

func TestValidAtTheEdges(t *testing.T) {
	for s := range api.Symbols {
		for n, want := range map[int]bool{-1: false, 0: true, api.MaxTotal: true, api.MaxTotal + 1: false} {
			for _, x := range []api.Histogram{{}, even(1), even(api.MaxTotal)} {
				x[s] = n
				wantValid(t, x, want)
			}
		}
	}
}

func TestValidOfInvalidTallies(t *testing.T) {
	for _, x := range invalid() {
		wantValid(t, x, false)
	}
}

// P7.1: Order

func TestOrderOfOrdinaryTallies(t *testing.T) {
	wantOrder(t, of(1, 1, 2, 4), 0, 1, 2, 3)
	wantOrder(t, of(4, 2, 1, 1), 2, 3, 1, 0)
	wantOrder(t, of(5, 0, 1, 5, 1), 2, 4, 0, 3)
	wantOrder(t, of(10, 9, 100), 1, 0, 2)
}

func TestOrderOfFewSymbols(t *testing.T) {
	wantOrder(t, api.Histogram{})
	for s := range api.Symbols {
		for _, n := range []int{1, 2, 1000, api.MaxTotal} {
			wantOrder(t, evenly(n, s, s), s)
		}
	}
	wantOrder(t, api.Histogram{0: 1, last: 1}, 0, last)
	wantOrder(t, api.Histogram{0: 1, last: 2}, 0, last)
	wantOrder(t, api.Histogram{0: 2, last: 1}, last, 0)
}

func TestOrderOfEqualCounts(t *testing.T) {
	for _, n := range []int{1, 7, api.MaxTotal} {
		wantOrder(t, even(n), ordered(even(n))...)
		for _, s := range places {
			less, more := even(n), even(n)
			less[s], more[s] = n-1, n+1
			others := slices.DeleteFunc(ordered(even(n)), func(v int) bool { return v == s })
			if n > 1 {
				wantOrder(t, less, append([]int{s}, others...)...)
			}
			if n < api.MaxTotal {
				wantOrder(t, more, append(others, s)...)
			}
		}
	}
	wantOrder(t, api.Histogram{0: 9, 1: 4, 100: 2, 200: 4, 255: 2, 256: 9, last: 4}, 100, 255, 1, 200, last, 0, 256)
}

func TestOrderComparesWholeCounts(t *testing.T) {
	wantOrder(t, of(256, 1), 1, 0)
	wantOrder(t, of(65536, 1), 1, 0)
	wantOrder(t, of(1<<24, 3), 1, 0)
	wantOrder(t, of(api.MaxTotal, api.MaxTotal-1, 1), 2, 1, 0)
}

func TestOrderOfAllSmallTallies(t *testing.T) {
	few := []int{0, 1, 128, 256, last}
	for pattern := range 4 * 4 * 4 * 4 * 4 {
		var x api.Histogram
		for _, s := range few {
			x[s] = pattern % 4
			pattern /= 4
		}
		wantOrder(t, x, ordered(x)...)
	}
}

func TestOrderFollowsTheDefinition(t *testing.T) {
	d := dice(2)
	for range 100 {
		for _, most := range []int{1, 2, 3, 10, 300, api.MaxTotal} {
			x := d.tally(d.roll(api.Symbols+1), most)
			wantOrder(t, x, ordered(x)...)
		}
	}
}

func TestOrderOfInvalidTallies(t *testing.T) {
	for _, x := range invalid() {
		wantOrder(t, x)
	}
}

func TestOrderReturnsNewMemory(t *testing.T) {
	x := of(5, 0, 1, 5, 1)
	results := [][]int{packagemerge.Order(x), packagemerge.Order(x), packagemerge.Order(x)}
	for i, l := range results {
		l = l[:cap(l)]
		for at := range l {
			l[at] = -1 - i
		}
	}
	for i, l := range results {
		if !slices.Equal(l, slices.Repeat([]int{-1 - i}, 4)) {
			t.Errorf("result %d shares memory with another: %d", i, l)
		}
	}
	wantOrder(t, x, 2, 4, 0, 3)
}

// P7.1: Total

func TestTotalOfOrdinaryTallies(t *testing.T) {
	wantTotal(t, of(1, 1, 2, 4), api.Lengths{3, 3, 2, 1}, 14)
	wantTotal(t, of(1, 1, 2, 4), api.Lengths{2, 2, 2, 2}, 16)
	wantTotal(t, of(1, 1, 2, 4), api.Lengths{}, 0)
	wantTotal(t, of(7), api.Lengths{1}, 7)
	wantTotal(t, of(7, 3), api.Lengths{0, 15}, 45)
}

func TestTotalAtEverySymbol(t *testing.T) {
	d := dice(3)
	l := d.lengths(api.MaxCode)
	for s := range api.Symbols {
		for _, n := range []int{1, 2, 1000, api.MaxTotal} {
			wantTotal(t, evenly(n, s, s), l, n*int(l[s]))
			wantTotal(t, evenly(n, s, s), lengthsAt(map[int]uint8{s: 3}), n*3)
		}
	}
}

func TestTotalOfSymbolsWithoutACount(t *testing.T) {
	d := dice(4)
	wantTotal(t, api.Histogram{}, d.lengths(255), 0)
	wantTotal(t, of(1, 1, 2, 4), api.Lengths{3, 3, 2, 1, 9}, 14)
	wantTotal(t, of(0, 5), api.Lengths{9, 2, last: 255}, 10)
	for s := range api.Symbols {
		x, l := even(1), d.lengths(255)
		x[s], l[s] = 0, 0
		want := total(x, l)
		l[s] = 255
		wantTotal(t, x, l, want)
	}
}

// The lengths need not be those of a code.
func TestTotalOfAnyLengths(t *testing.T) {
	d := dice(5)
	for range 300 {
		for _, most := range []int{1, 2, api.MaxCode, 16, 128, 255} {
			x, l := d.tally(d.roll(api.Symbols+1), 1+d.roll(api.MaxTotal)), d.lengths(most)
			wantTotal(t, x, l, total(x, l))
		}
	}
}

func TestTotalOfTheGreatest(t *testing.T) {
	wantTotal(t, even(api.MaxTotal), evenLengths(255), api.Symbols*255*api.MaxTotal)
	wantTotal(t, of(api.MaxTotal, api.MaxTotal), api.Lengths{1, 1}, 2*api.MaxTotal)
	wantTotal(t, api.Histogram{last: api.MaxTotal}, api.Lengths{last: 255}, 255*api.MaxTotal)
}

func TestTotalOfInvalidTallies(t *testing.T) {
	d := dice(6)
	for _, x := range invalid() {
		wantTotal(t, x, api.Lengths{}, 0)
		wantTotal(t, x, evenLengths(1), 0)
		wantTotal(t, x, d.lengths(255), 0)
	}
}

// P7.2: lengths

func TestLengthsOfTheExamples(t *testing.T) {
	wantLengths(t, of(1, 1, 2, 4), 15, api.Lengths{3, 3, 2, 1})
	wantLengths(t, of(1, 1, 2, 4), 2, api.Lengths{2, 2, 2, 2})
}

func TestLengthsOfOrdinaryTallies(t *testing.T) {
	wantLengths(t, of(4, 2, 1, 1), 15, api.Lengths{1, 2, 3, 3})
	wantLengths(t, of(5, 0, 1, 5, 1), 15, api.Lengths{2, 0, 3, 1, 3})
	wantLengths(t, of(10, 9, 100), 15, api.Lengths{2, 2, 1})
	wantLengths(t, of(1, 2, 4, 8, 16), 4, api.Lengths{4, 4, 3, 2, 1})
	wantLengths(t, of(1, 2, 4, 8, 16), 3, api.Lengths{3, 3, 3, 3, 1})
	wantLengths(t, of(16, 8, 4, 2, 1), 3, api.Lengths{1, 3, 3, 3, 3})
	wantLengths(t, of(1, 5, 6, 7, 8, 9), 15, api.Lengths{4, 4, 3, 2, 2, 2})
	wantLengths(t, of(1, 5, 6, 7, 8, 9), 3, api.Lengths{3, 3, 3, 3, 2, 2})
}

func TestLengthsOfNoSymbols(t *testing.T) {
	for limit := 1; limit <= api.MaxCode; limit++ {
		wantLengths(t, api.Histogram{}, limit, api.Lengths{})
	}
}

func TestLengthsOfOneSymbol(t *testing.T) {
	for s := range api.Symbols {
		for limit := 1; limit <= api.MaxCode; limit++ {
			for _, n := range []int{1, 2, 1000, api.MaxTotal} {
				wantLengths(t, evenly(n, s, s), limit, lengthsAt(map[int]uint8{s: 1}))
			}
		}
	}
}

func TestLengthsOfTwoSymbols(t *testing.T) {
	for _, a := range places {
		for _, b := range places {
			for limit := 1; limit <= api.MaxCode && a != b; limit++ {
				for _, n := range []int{1, 2, 1000, api.MaxTotal} {
					wantLengths(t, tallyAt(map[int]int{a: 1, b: n}), limit, lengthsAt(map[int]uint8{a: 1, b: 1}))
					wantLengths(t, tallyAt(map[int]int{a: n, b: n}), limit, lengthsAt(map[int]uint8{a: 1, b: 1}))
				}
			}
		}
	}
}

func TestLengthsOfThreeSymbols(t *testing.T) {
	for _, s := range []int{0, 100, last - 2} {
		for limit := 2; limit <= api.MaxCode; limit++ {
			wantLengths(t, evenly(5, s, s+2), limit, lengthsAt(map[int]uint8{s: 2, s + 1: 2, s + 2: 1}))
			wantLengths(t, tallyAt(map[int]int{s: 6, s + 1: 5, s + 2: 5}), limit, lengthsAt(map[int]uint8{s: 1, s + 1: 2, s + 2: 2}))
			wantLengths(t, tallyAt(map[int]int{s: 5, s + 1: 6, s + 2: 5}), limit, lengthsAt(map[int]uint8{s: 2, s + 1: 1, s + 2: 2}))
			wantLengths(t, tallyAt(map[int]int{s: 5, s + 1: 5, s + 2: 4}), limit, lengthsAt(map[int]uint8{s: 2, s + 1: 1, s + 2: 2}))
			wantLengths(t, tallyAt(map[int]int{s: 1, s + 1: api.MaxTotal, s + 2: 1000}), limit, lengthsAt(map[int]uint8{s: 2, s + 1: 1, s + 2: 2}))
		}
		wantLengthsError(t, evenly(5, s, s+2), 1)
	}
}

func TestLengthsOfAsManySymbolsAsTheLimitAllows(t *testing.T) {
	d := dice(7)
	for limit := 1; limit <= 8; limit++ {
		most := 1 << limit
		for _, x := range []api.Histogram{evenly(1, 0, most-1), evenly(9, api.Symbols-most, last), d.tally(most, 1000), d.tally(most, api.MaxTotal), d.steep(most)} {
			var want api.Lengths
			for s := range x {
				if x[s] > 0 {
					want[s] = uint8(limit)
				}
			}
			wantLengths(t, x, limit, want)
		}
	}
}

func TestLengthsOfMoreSymbolsThanTheLimitAllows(t *testing.T) {
	d := dice(8)
	for limit := 1; limit <= 8; limit++ {
		most := 1 << limit
		for more := most + 1; more <= api.Symbols; more++ {
			wantLengthsError(t, evenly(1, 0, more-1), limit)
			wantLengthsError(t, evenly(api.MaxTotal, api.Symbols-more, last), limit)
			wantLengthsError(t, d.tally(more, 1000), limit)
		}
		wantDefined(t, d.tally(most+1, 1000))
		wantDefined(t, d.steep(most+1))
	}
	for limit := 1; limit <= api.MaxCode; limit++ {
		if _, e := packagemerge.Lengths(even(1), limit); (e == api.OK) != (limit >= 9) {
			t.Errorf("all symbols, limit %d: %d", limit, e)
		}
	}
}

// Of equal leaves, those of the least symbols have the longer codes.
func TestLengthsOfEqualCounts(t *testing.T) {
	for many := 2; many <= api.Symbols; many++ {
		long := 1
		for 1<<long < many {
			long++
		}
		longer := 2*many - 1<<long
		for _, n := range []int{1, 7, api.MaxTotal} {
			var want api.Lengths
			for s := range many {
				want[s] = uint8(long)
				if s >= longer {
					want[s]--
				}
			}
			for _, limit := range []int{long, long + 1, api.MaxCode} {
				wantLengths(t, evenly(n, 0, many-1), limit, want)
			}
		}
	}
}

func TestLengthsOfSomeEqualCounts(t *testing.T) {
	d := dice(9)
	for range 60 {
		x := d.tally(2+d.roll(api.Symbols-1), 2+d.roll(3))
		for range d.roll(10) {
			x[d.roll(api.Symbols)] = 1 + d.roll(100)
		}
		wantDefined(t, x)
	}
}

// In each of these a package weighs as much as a leaf, and other lengths have the same total.
func TestLengthsOfPackagesThatWeighAsMuchAsLeaves(t *testing.T) {
	for limit := 2; limit <= api.MaxCode; limit++ {
		wantLengths(t, of(1, 1, 2, 2), limit, api.Lengths{2, 2, 2, 2})
		wantLengths(t, of(2, 2, 1, 1), limit, api.Lengths{2, 2, 2, 2})
		wantLengths(t, of(1, 1, 2, 3), max(limit, 3), api.Lengths{3, 3, 2, 1})
		wantLengths(t, of(1, 2, 3, 3), limit, api.Lengths{2, 2, 2, 2})
		wantLengths(t, of(1, 1, 1, 2), limit, api.Lengths{2, 2, 2, 2})
		wantLengths(t, of(1, 1, 1, 1, 2, 2), max(limit, 3), api.Lengths{3, 3, 3, 3, 2, 2})
		wantLengths(t, of(1, 1, 2, 2, 4, 4), max(limit, 3), api.Lengths{3, 3, 3, 3, 2, 2})
	}
}

func TestLengthsOfThePowersOfTwo(t *testing.T) {
	for many := 2; many <= 31; many++ {
		var x api.Histogram
		var want api.Lengths
		for i := range many {
			x[last-i] = 1 << i
			want[last-i] = uint8(min(many-1, many-i))
		}
		if many-1 <= api.MaxCode {
			wantLengths(t, x, many-1, want)
			wantLengths(t, x, api.MaxCode, want)
		}
		wantDefined(t, x)
	}
}

func TestLengthsOfFibonacciNumbers(t *testing.T) {
	wantLengths(t, fibonacci(6), 15, api.Lengths{5, 5, 4, 3, 2, 1})
	wantLengths(t, fibonacci(6), 4, api.Lengths{4, 4, 3, 2, 2, 2})
	wantLengths(t, fibonacci(6), 3, api.Lengths{3, 3, 3, 3, 2, 2})
	for many := 1; many <= 46; many++ {
		x := fibonacci(many)
		wantDefined(t, x)
		var y api.Histogram
		for s := range many {
			y[last-5*s] = x[s]
		}
		wantDefined(t, y)
	}
}

func TestLengthsOfTheGreatestCounts(t *testing.T) {
	wantDefined(t, even(api.MaxTotal))
	for _, s := range places {
		less, least := even(api.MaxTotal), even(api.MaxTotal)
		less[s], least[s] = api.MaxTotal-1, 1
		wantDefined(t, less)
		wantDefined(t, least)
	}
	wantDefined(t, of(api.MaxTotal, 1<<30, 1<<30, 1<<29, 1<<30-1, 1<<29, 1, 1))
}

// The weights of packages need more than 32 bits, and those of the last rows more than 45.
func TestLengthsWithGreatWeights(t *testing.T) {
	d := dice(10)
	for range 40 {
		x := d.tally(2+d.roll(api.Symbols-1), 1000)
		for s := range x {
			if x[s] > 0 {
				x[s] = api.MaxTotal - x[s]
			}
		}
		wantDefined(t, x)
	}
}

func TestLengthsOfAllSmallTallies(t *testing.T) {
	few := []int{0, 1, 128, 256, last}
	for pattern := range 5 * 5 * 5 * 5 * 5 {
		var x api.Histogram
		for _, s := range few {
			x[s] = pattern % 5
			pattern /= 5
		}
		for limit := 1; limit <= 5; limit++ {
			if l, ok := defined(x, limit); ok {
				wantLengths(t, x, limit, l)
			} else {
				wantLengthsError(t, x, limit)
			}
		}
	}
}

func TestLengthsFollowTheDefinition(t *testing.T) {
	d := dice(11)
	for range 10 {
		for _, most := range []int{1, 2, 3, 10, 100, 10000, api.MaxTotal} {
			wantDefined(t, d.tally(d.roll(20), most))
			wantDefined(t, d.tally(d.roll(api.Symbols+1), most))
		}
		wantDefined(t, d.steep(d.roll(20)))
		wantDefined(t, d.steep(d.roll(api.Symbols+1)))
	}
	for many := 0; many <= api.Symbols; many += 1 + many/20 {
		wantDefined(t, d.steep(many))
	}
}

// P7.2: errors

func TestLengthsRefusesNumbersThatAreNotLimits(t *testing.T) {
	d := dice(12)
	for _, limit := range noLimits {
		for _, x := range []api.Histogram{{}, of(7), {last: 1}, of(1, 1), of(1, 1, 2, 4), even(1), even(api.MaxTotal), d.tally(50, 1000)} {
			wantLengthsError(t, x, limit)
		}
	}
	for limit := -300; limit <= 300; limit++ {
		l, e := packagemerge.Lengths(of(1, 1), limit)
		if allowed := limit >= 1 && limit <= 15; (e == api.OK) != allowed || (l == api.Lengths{1, 1}) != allowed {
			t.Errorf("limit %d: %v, %d", limit, shown(l[:]), e)
		}
	}
}

func TestLengthsRefusesInvalidTallies(t *testing.T) {
	for _, x := range invalid() {
		for limit := 1; limit <= api.MaxCode; limit++ {
			wantLengthsError(t, x, limit)
		}
		for _, limit := range noLimits {
			wantLengthsError(t, x, limit)
		}
	}
}

func TestLengthsRefusesAWrongCountAtEverySymbol(t *testing.T) {
	for s := range api.Symbols {
		for _, n := range []int{-1, api.MaxTotal + 1} {
			for _, x := range []api.Histogram{{}, of(1, 1, 2, 4), even(3)} {
				x[s] = n
				wantLengthsError(t, x, api.MaxCode)
				wantLengthsError(t, x, 9)
				wantLengthsError(t, x, 1)
			}
		}
	}
}

// P7.3

// cheapest tries all lengths within the limit for the symbols of a tally, and returns the least total of those that satisfy Kraft's inequality.
func cheapest(t api.Histogram, limit int) int {
	symbols, best := ordered(t), math.MaxInt
	var l api.Lengths
	var try func(i int)
	try = func(i int) {
		if i == len(symbols) {
			if kraft(l) <= 1<<api.MaxCode {
				best = min(best, total(t, l))
			}
			return
		}
		for length := 1; length <= limit; length++ {
			l[symbols[i]] = uint8(length)
			try(i + 1)
		}
	}
	try(0)
	return best
}

func wantCheapest(t *testing.T, x api.Histogram, limit int) {
	t.Helper()
	l, e := packagemerge.Lengths(x, limit)
	if n := cheapest(x, limit); e != api.OK || packagemerge.Total(x, l) != n {
		t.Errorf("Lengths(%v, %d): %v, %d, but others have a total of %d", shown(x[:]), limit, shown(l[:]), e, n)
	}
}

func TestNoLengthsHaveASmallerTotal(t *testing.T) {
	d := dice(13)
	for _, c := range []struct{ symbols, limit int }{{1, 1}, {1, 15}, {2, 1}, {2, 2}, {2, 15}, {3, 2}, {3, 3}, {3, 15}, {4, 2}, {4, 3}, {4, 5}, {5, 3}, {5, 4}, {6, 3}, {7, 3}} {
		for range 8 {
			for _, most := range []int{1, 2, 4, 10, 100, api.MaxTotal} {
				wantCheapest(t, d.tally(c.symbols, most), c.limit)
			}
			wantCheapest(t, d.steep(c.symbols), c.limit)
		}
	}
	wantCheapest(t, fibonacci(5), 4)
	wantCheapest(t, fibonacci(6), 5)
	wantCheapest(t, fibonacci(6), 4)
	wantCheapest(t, fibonacci(7), 4)
	wantCheapest(t, fibonacci(8), 3)
}

func TestNoLengthsHaveASmallerTotalForSmallTallies(t *testing.T) {
	for pattern := range 6 * 6 * 6 * 6 {
		x := of(1+pattern%6, pattern/6%6, pattern/36%6, pattern/216)
		for limit := 2; limit <= 4; limit++ {
			wantCheapest(t, x, limit)
		}
	}
}

// least returns the least total of lengths within the limit, for any number of symbols. A level of a code's tree is left for the next one with some symbols placed and some nodes free; the most frequent symbols are placed first.
func least(t api.Histogram, limit int) int {
	symbols := ordered(t)
	slices.Reverse(symbols)
	rest := make([]int, len(symbols)+1) // the counts of the symbols from each one on
	for i := len(symbols) - 1; i >= 0; i-- {
		rest[i] = rest[i+1] + t[symbols[i]]
	}
	type place struct{ level, placed, free int }
	known := map[place]int{}
	var from func(p place) int
	from = func(p place) int {
		if p.placed == len(symbols) {
			return 0
		}
		if p.level == limit || p.free == 0 {
			return math.MaxInt / 2
		}
		if n, ok := known[p]; ok {
			return n
		}
		best, nodes := math.MaxInt/2, min(2*p.free, len(symbols)-p.placed)
		for many := range nodes + 1 {
			best = min(best, rest[p.placed]+from(place{p.level + 1, p.placed + many, nodes - many}))
		}
		known[p] = best
		return best
	}
	return from(place{free: 1})
}

func TestTheTotalIsTheLeastForManySymbols(t *testing.T) {
	d := dice(14)
	check := func(x api.Histogram, limit int) {
		if l, e := packagemerge.Lengths(x, limit); e != api.OK || packagemerge.Total(x, l) != least(x, limit) {
			t.Errorf("Lengths(%v, %d): %v, %d, want a total of %d", shown(x[:]), limit, shown(l[:]), e, least(x, limit))
		}
	}
	for limit := 1; limit <= api.MaxCode; limit++ {
		for range 6 {
			many := 1 + d.roll(min(40, 1<<limit))
			check(d.tally(many, 5), limit)
			check(d.tally(many, api.MaxTotal), limit)
			check(d.steep(many), limit)
			check(fibonacci(many), limit)
		}
		check(fibonacci(min(40, 1<<limit)), limit)
	}
}

// eachCode gives f valid tallies of all kinds, with the lengths for each limit that allows so many symbols.
func eachCode(t *testing.T, f func(x api.Histogram, limit int, l api.Lengths)) {
	t.Helper()
	d := dice(15)
	all := []api.Histogram{{}, even(1), even(api.MaxTotal)}
	for many := 0; many <= api.Symbols; many += 1 + many/20 {
		all = append(all, d.tally(many, 1), d.tally(many, 3), d.tally(many, 1000), d.tally(many, api.MaxTotal), d.steep(many))
	}
	for many := range 47 {
		all = append(all, fibonacci(many))
	}
	for _, x := range all {
		for limit := 1; limit <= api.MaxCode; limit++ {
			if len(ordered(x)) > 1<<limit {
				continue
			}
			l, e := packagemerge.Lengths(x, limit)
			if e != api.OK {
				t.Errorf("Lengths(%v, %d): %d", shown(x[:]), limit, e)
			}
			f(x, limit, l)
		}
	}
}

func TestNoLengthExceedsTheLimit(t *testing.T) {
	eachCode(t, func(x api.Histogram, limit int, l api.Lengths) {
		if longest := slices.Max(l[:]); int(longest) > limit {
			t.Errorf("Lengths(%v, %d): a length of %d", shown(x[:]), limit, longest)
		}
	})
}

func TestTheSumIsExactlyOne(t *testing.T) {
	eachCode(t, func(x api.Histogram, limit int, l api.Lengths) {
		want := 1 << api.MaxCode
		switch len(ordered(x)) {
		case 0:
			want = 0
		case 1:
			want /= 2
		}
		if n := kraft(l); n != want {
			t.Errorf("Lengths(%v, %d): a sum of %d of %d", shown(x[:]), limit, n, want)
		}
	})
}

func TestGreaterCountsHaveNoGreaterLengths(t *testing.T) {
	eachCode(t, func(x api.Histogram, limit int, l api.Lengths) {
		order := packagemerge.Order(x)
		for i := 1; i < len(order); i++ {
			if a, b := order[i-1], order[i]; x[a] > x[b] || l[a] < l[b] {
				t.Errorf("Lengths(%v, %d): %d for %d, %d for %d", shown(x[:]), limit, l[a], a, l[b], b)
			}
		}
	})
}

func TestExactlyTheSymbolsHaveLengths(t *testing.T) {
	eachCode(t, func(x api.Histogram, limit int, l api.Lengths) {
		for s := range x {
			if (x[s] > 0) != (l[s] > 0) {
				t.Errorf("Lengths(%v, %d): %d for %d", shown(x[:]), limit, l[s], s)
			}
		}
	})
}

func TestAGreaterLimitHasNoGreaterTotal(t *testing.T) {
	totals := map[api.Histogram]int{}
	eachCode(t, func(x api.Histogram, limit int, l api.Lengths) {
		n := packagemerge.Total(x, l)
		if before, ok := totals[x]; ok && n > before {
			t.Errorf("%v: a total of %d for limit %d, and %d for the one before", shown(x[:]), n, limit, before)
		}
		totals[x] = n
	})
}

// Rules

func TestCallsDependOnTheirArgumentsAlone(t *testing.T) {
	x, y := of(1, 1, 2, 4), fibonacci(30)
	for range 3 {
		wantLengths(t, x, 15, api.Lengths{3, 3, 2, 1})
		wantLengthsError(t, x, 1)
		wantDefined(t, y)
		wantLengths(t, x, 2, api.Lengths{2, 2, 2, 2})
		wantLengthsError(t, of(-1), 2)
		wantOrder(t, x, 0, 1, 2, 3)
		wantTotal(t, x, api.Lengths{3, 3, 2, 1}, 14)
	}
}

func TestArgumentsAreAsTheyWere(t *testing.T) {
	d := dice(16)
	x, l := d.steep(100), d.lengths(255)
	sameX, sameL := x, l
	packagemerge.Valid(x)
	packagemerge.Order(x)
	packagemerge.Total(x, l)
	for limit := 1; limit <= api.MaxCode; limit++ {
		packagemerge.Lengths(x, limit)
	}
	if x != sameX || l != sameL {
		t.Error("the arguments have changed")
	}
}
