package lengthtable_test

import (
	"bytes"
	"fmt"
	"iter"
	"math"
	"slices"
	"strings"
	"testing"

	"winepress/api"
	"winepress/bitwriter"
	"winepress/lengthtable"
)

const last = api.Symbols - 1

// places holds symbols at which lengths are looked at: the ends, those next to them, the bytes' ends and others. The last one is Eob.
var places = []int{0, 1, 2, 3, 100, 127, 128, 254, 255, 256, last}

// tooGreat holds lengths that no code has; the low four bits of some are those of a length.
var tooGreat = []uint8{16, 17, 18, 30, 31, 32, 33, 63, 64, 79, 80, 127, 128, 129, 240, 241, 254, 255}

// notBits holds numbers that are neither 0 nor 1; the low bits of some are.
var notBits = []int{
	-1, -2, -3, -255, -256, -1 << 31, -1<<31 - 1, -1 << 32, -1<<32 + 1, -1 << 62, -1<<62 + 1, math.MinInt, math.MinInt + 1,
	2, 3, 4, 5, 16, 48, 49, 255, 256, 257, 1<<31 - 1, 1 << 31, 1 << 32, 1<<32 + 1, 1 << 40, 1 << 62, 1<<62 + 1, math.MaxInt - 1, math.MaxInt,
}

// wild holds numbers that no part of a state is; the low bits of some are.
var wild = []int{
	-1, -2, -3, -15, -16, -255, -256, -258, -1 << 31, -1<<31 - 1, -1 << 32, -1<<32 + 1, -1<<32 + 4, -1 << 62, -1<<62 + 4, math.MinInt, math.MinInt + 1, math.MinInt + 4,
	259, 260, 271, 272, 511, 512, 514, 516, 1 << 16, 1<<16 + 1, 1<<31 - 1, 1 << 31, 1 << 32, 1<<32 + 1, 1<<32 + 4, 1<<40 + 5, 1<<62 + 2, math.MaxInt - 1, math.MaxInt,
}

// dice gives numbers that look thrown, the same ones in every run.
type dice uint64

func (d *dice) roll(sides int) int {
	*d = *d*6364136223846793005 + 1442695040888963407
	return int(uint64(*d) >> 33 % uint64(sides))
}

// lengths returns lengths up to most for all symbols.
func (d *dice) lengths(most int) api.Lengths {
	var l api.Lengths
	for s := range l {
		l[s] = uint8(d.roll(most + 1))
	}
	return l
}

// digits returns that many digits 0 and 1.
func (d *dice) digits(many int) string {
	b := make([]byte, many)
	for i := range b {
		b[i] = byte('0' + d.roll(2))
	}
	return string(b)
}

// symbol returns a symbol whose length is between two.
func (d *dice) symbol(l api.Lengths, from, to uint8) (symbol int, ok bool) {
	var some []int
	for s, length := range l {
		if length >= from && length <= to {
			some = append(some, s)
		}
	}
	if some == nil {
		return 0, false
	}
	return some[d.roll(len(some))], true
}

// table returns lengths of at least two symbols that form a table: one of those with a length is divided into two again and again.
func (d *dice) table(symbols int) api.Lengths {
	l := lengthsAt(map[int]uint8{d.roll(last): 1, last: 1})
	for range symbols - 2 {
		parent, ok := d.symbol(l, 1, api.MaxCode-1)
		if !ok {
			return l
		}
		child, _ := d.symbol(l, 0, 0)
		l[parent]++
		l[child] = l[parent]
	}
	return l
}

// spoilt returns digits that differ a little: one is turned, left out or added, or some are lacking at the end.
func (d *dice) spoilt(s string) string {
	at := d.roll(len(s))
	switch d.roll(4) {
	case 0:
		return s[:at] + string('0'+'1'-s[at]) + s[at+1:]
	case 1:
		return s[:at] + s[at+1:]
	case 2:
		return s[:at] + d.digits(1) + s[at:]
	}
	return s[:at]
}

// lengthsAt returns these lengths.
func lengthsAt(lengths map[int]uint8) api.Lengths {
	var l api.Lengths
	for s, n := range lengths {
		l[s] = n
	}
	return l
}

// evenly returns one length for as many symbols, the last ones.
func evenly(length uint8, many int) api.Lengths {
	var l api.Lengths
	for s := range many {
		l[last-s] = length
	}
	return l
}

// smooth returns the table with the fewest bits: lengths 8, and 9 at the end or at the beginning.
func smooth(falling bool) api.Lengths {
	l := evenly(8, api.Symbols)
	for i := range 4 {
		if falling {
			l[i] = 9
		} else {
			l[last-i] = 9
		}
	}
	return l
}

// rough returns a table with many bits: every second symbol has a code, and most codes are long, as of those that can be divided the longest one is.
func rough() api.Lengths {
	l := lengthsAt(map[int]uint8{1: 1, last: 1})
	for child := 3; child < last; child += 2 {
		parent := 1
		for s, length := range l {
			if length < api.MaxCode && (length > l[parent] || l[parent] == api.MaxCode) {
				parent = s
			}
		}
		l[parent]++
		l[child] = l[parent]
	}
	return l
}

// jumps returns tables with the lengths 15 and 0 next to each other, at the beginning, in the middle and at the end.
func jumps() []api.Lengths {
	rest := func(l api.Lengths, from int) api.Lengths {
		for i := range 14 {
			l[from+i] = uint8(i + 1)
		}
		return l
	}
	return []api.Lengths{
		rest(api.Lengths{0: 15, 2: 15}, api.Symbols-14),
		rest(api.Lengths{1: 15, 3: 15}, api.Symbols-14),
		rest(api.Lengths{0: 15, last: 15}, 1),
		rest(api.Lengths{0: 15, last: 15}, 100),
		rest(api.Lengths{last - 2: 15, last: 15}, 0),
		rest(api.Lengths{last - 1: 15, last: 15}, 50),
		rest(api.Lengths{100: 15, last: 15}, 101),
	}
}

// tables returns lengths that form a table, chosen ones and thrown ones.
func tables() []api.Lengths {
	d := dice(1)
	l := append(jumps(),
		example(), api.Lengths{0: 1, last: 1}, api.Lengths{256: 1, last: 1}, api.Lengths{1: 1, last: 1},
		evenly(1, 2), evenly(2, 4), evenly(3, 8), evenly(7, 128), evenly(8, 256), smooth(false), smooth(true), rough(),
	)
	for symbols := 2; symbols <= api.Symbols; symbols += 1 + d.roll(3) {
		l = append(l, d.table(symbols))
	}
	return l
}

func example() api.Lengths { return api.Lengths{0: 1, 1: 2, last: 2} }

// incomplete returns lengths up to 15 that form no table: such as leave room for more codes, such as are too many, and such as leave no room but have no code for Eob.
func incomplete() []api.Lengths {
	d := dice(2)
	l := []api.Lengths{
		{}, {1}, {0: 15}, {last: 1}, {last: 15}, {0: 1, last: 2}, {0: 2, last: 1}, {0: 1, 1: 2, last: 3}, {0: 1, 1: 2, last: 1},
		{0: 1, 1: 1}, {0: 1, 256: 1}, {0: 1, 1: 2, 256: 2}, {3, 3, 2, 1},
		{0: 1, 1: 1, last: 15}, {0: 1, 1: 1, last: 1}, {0: 1, 1: 2, 2: 15, last: 2},
		evenly(8, 255), evenly(8, 257), evenly(1, 1), evenly(2, 3), evenly(2, 5), evenly(1, api.Symbols), evenly(8, api.Symbols), evenly(9, api.Symbols), evenly(14, api.Symbols), evenly(15, api.Symbols),
	}
	for range 40 {
		less, more, without := d.table(2+d.roll(200)), d.table(2+d.roll(200)), d.table(2+d.roll(200))
		s, _ := d.symbol(less, 1, 15)
		less[s] = 0
		s, _ = d.symbol(more, 0, 0)
		more[s] = uint8(1 + d.roll(15))
		s, _ = d.symbol(without, 0, 0)
		without[s], without[last] = without[last], 0
		l = append(l, less, more, without, d.lengths(15), d.lengths(2))
	}
	return l
}

// noTables returns lengths that form no table, and among them such as are too great.
func noTables() []api.Lengths {
	d := dice(3)
	l := append(incomplete(), evenly(16, api.Symbols), evenly(255, api.Symbols), evenly(16, 2), api.Lengths{0: 1, 1: 1, last: 16}, api.Lengths{0: 1, 1: 16, last: 1}, api.Lengths{0: 16, 1: 1, last: 1})
	for _, base := range []api.Lengths{{}, example(), evenly(8, 256), d.table(90), rough()} {
		for _, s := range places {
			for _, length := range tooGreat {
				other := base
				other[s] = length
				l = append(l, other)
			}
		}
	}
	return l
}

// isTable tells by the definition whether lengths form a table. All these fractions and their sums are exact.
func isTable(l api.Lengths) bool {
	sum := 0.0
	for _, length := range l {
		if length > 15 {
			return false
		}
		if length > 0 {
			sum += math.Pow(2, -float64(length))
		}
	}
	return sum == 1 && l[last] > 0
}

// spelt returns the encoding with the fewest adjustments after a first length, written with digits.
func spelt(first int, l api.Lengths) string {
	var s strings.Builder
	fmt.Fprintf(&s, "%04b", first)
	now := first
	for _, length := range l {
		s.WriteString(moved(now, int(length)) + "0")
		now = int(length)
	}
	return s.String()
}

// moved returns the adjustments from one length to another.
func moved(from, to int) string {
	return strings.Repeat("10", max(0, to-from)) + strings.Repeat("11", max(0, from-to))
}

// written returns the encoding that Of and Put write.
func written(l api.Lengths) string { return spelt(int(l[0]), l) }

// bitsOf returns the bits that digits stand for.
func bitsOf(s string) []int {
	l := make([]int, len(s))
	for i := range l {
		l[i] = int(s[i] - '0')
	}
	return l
}

// digitsOf writes bits with digits, and a ? for what is none.
func digitsOf(bits []int) string {
	b := make([]byte, len(bits))
	for i, bit := range bits {
		b[i] = '?'
		if bit == 0 || bit == 1 {
			b[i] = byte('0' + bit)
		}
	}
	return string(b)
}

// outcome is what a step leads to.
type outcome struct {
	c    api.TableState
	done bool
	e    api.Errno
}

// outcomes visits by the definition what digits lead to, and how many they are: the zero state, then what follows from each digit up to one that is an error or makes the state done.
func outcomes(s string) iter.Seq2[int, outcome] {
	return func(yield func(int, outcome) bool) {
		var o outcome
		for o.c.Bits < 4 {
			if !yield(o.c.Bits, o) || o.c.Bits == len(s) {
				return
			}
			o.c.Now = 2*o.c.Now + int(s[o.c.Bits]-'0')
			o.c.Bits++
		}
		at := 4
		for yield(at, o) && at < len(s) && !o.done && o.e == api.OK {
			if s[at] == '0' {
				o = ended(o.c)
				at++
				continue
			}
			inside := o
			inside.c.Bits = 5
			if !yield(at+1, inside) || len(s) == at+1 {
				return
			}
			o = moving(o.c, s[at+1])
			at += 2
		}
	}
}

// ended returns what a terminating 0 leads to.
func ended(c api.TableState) outcome {
	c.Lengths[c.Symbol] = uint8(c.Now)
	c.Symbol, c.Way = c.Symbol+1, 0
	done := c.Symbol == api.Symbols
	if done && !isTable(c.Lengths) {
		return outcome{e: api.ErrTable}
	}
	return outcome{c: c, done: done}
}

// moving returns what an adjustment with that second digit leads to.
func moving(c api.TableState, second byte) outcome {
	switch {
	case second == '0' && c.Way != 2 && c.Now < 15:
		c.Now, c.Way = c.Now+1, 1
	case second == '1' && c.Way != 1 && c.Now > 0:
		c.Now, c.Way = c.Now-1, 2
	default:
		return outcome{e: api.ErrTable}
	}
	return outcome{c: c}
}

// endOf returns the last outcome, and the number of digits that lead to it.
func endOf(s string) (o outcome, many int) {
	for n, next := range outcomes(s) {
		o, many = next, n
	}
	return o, many
}

// after returns the state that digits lead to.
func after(t *testing.T, s string) api.TableState {
	t.Helper()
	end, many := endOf(s)
	if end.e != api.OK || many != len(s) {
		t.Fatalf("%s leads to no state: %d after %d digits", s, end.e, many)
	}
	return end.c
}

// pathTo returns digits that lead to a state if any do.
func pathTo(c api.TableState) string {
	if c.Bits < 4 {
		return fmt.Sprintf("%0*b", max(0, c.Bits), max(0, c.Now))[:max(0, c.Bits)]
	}
	var s strings.Builder
	now := c.Now
	if c.Symbol > 0 {
		now = int(c.Lengths[0])
	} else if c.Way == 1 {
		now--
	} else if c.Way == 2 {
		now++
	}
	fmt.Fprintf(&s, "%04b", now)
	for _, length := range c.Lengths[:c.Symbol] {
		s.WriteString(moved(now, int(length)) + "0")
		now = int(length)
	}
	if c.Symbol < api.Symbols {
		s.WriteString(moved(now, c.Now))
	}
	if c.Bits == 5 {
		s.WriteString("1")
	}
	return s.String()
}

// isLedTo tells whether digits lead to a state. No part of the state may be far out of its range.
func isLedTo(c api.TableState) bool {
	end, _ := endOf(pathTo(c))
	return end.e == api.OK && end.c == c
}

// readByDefinition reads bits in the words of the chapter.
func readByDefinition(bits []int) (api.Lengths, int, api.Errno) {
	right := slices.IndexFunc(bits, func(bit int) bool { return bit != 0 && bit != 1 })
	if right < 0 {
		right = len(bits)
	}
	end, many := endOf(digitsOf(bits[:right]))
	switch {
	case end.e != api.OK:
		return api.Lengths{}, 0, end.e
	case end.done:
		return end.c.Lengths, many, api.OK
	case right < len(bits):
		return api.Lengths{}, 0, api.ErrArg
	}
	return api.Lengths{}, 0, api.ErrShort
}

// shown holds the lengths other than 0, for messages.
func shown(l api.Lengths) map[int]uint8 {
	m := map[int]uint8{}
	for s, n := range l {
		if n != 0 {
			m[s] = n
		}
	}
	return m
}

func shownState(c api.TableState) string {
	return fmt.Sprintf("%v, Symbol %d, Bits %d, Now %d, Way %d", shown(c.Lengths), c.Symbol, c.Bits, c.Now, c.Way)
}

func wantValid(t *testing.T, c api.TableState, want bool) {
	t.Helper()
	if lengthtable.Valid(c) != want {
		t.Errorf("Valid(%s): %v", shownState(c), !want)
	}
}

func wantStep(t *testing.T, c api.TableState, bit int, want outcome) {
	t.Helper()
	if o, done, e := lengthtable.Step(c, bit); o != want.c || done != want.done || e != want.e {
		t.Errorf("Step(%s; %d): %s, %v, %d, want %s, %v, %d", shownState(c), bit, shownState(o), done, e, shownState(want.c), want.done, want.e)
	}
}

func wantStepError(t *testing.T, c api.TableState, bit int, want api.Errno) {
	t.Helper()
	wantStep(t, c, bit, outcome{e: want})
}

// wantNotValid asks for all that P10.1 says of a state that is not valid.
func wantNotValid(t *testing.T, c api.TableState) {
	t.Helper()
	wantValid(t, c, false)
	for _, bit := range []int{0, 1, 2, -1} {
		wantStepError(t, c, bit, api.ErrArg)
	}
}

// wantSteps asks Step for each digit, and Valid for each state.
func wantSteps(t *testing.T, s string) {
	t.Helper()
	var c api.TableState
	for many, o := range outcomes(s) {
		if o.e == api.OK {
			wantValid(t, o.c, true)
		}
		if many > 0 {
			wantStep(t, c, int(s[many-1]-'0'), o)
		}
		c = o.c
	}
}

func wantOf(t *testing.T, l api.Lengths, want string) {
	t.Helper()
	if bits, e := lengthtable.Of(l); e != api.OK || !slices.Equal(bits, bitsOf(want)) {
		t.Errorf("Of(%v): %s, %d, want %s", shown(l), digitsOf(bits), e, want)
	}
}

func wantRead(t *testing.T, bits []int, l api.Lengths, n int) {
	t.Helper()
	if o, many, e := lengthtable.Read(bits...); o != l || many != n || e != api.OK {
		t.Errorf("Read(%s): %v, %d, %d, want %v, %d", digitsOf(bits), shown(o), many, e, shown(l), n)
	}
}

func wantReadError(t *testing.T, bits []int, want api.Errno) {
	t.Helper()
	if o, many, e := lengthtable.Read(bits...); o != (api.Lengths{}) || many != 0 || e != want {
		t.Errorf("Read(%s): %v, %d, %d, want %d", digitsOf(bits), shown(o), many, e, want)
	}
}

func wantReadByDefinition(t *testing.T, bits []int) {
	t.Helper()
	l, n, e := readByDefinition(bits)
	if e != api.OK {
		wantReadError(t, bits, e)
		return
	}
	wantRead(t, bits, l, n)
}

// writer returns a writer with those bits.
func writer(t *testing.T, s string) *bitwriter.Writer {
	t.Helper()
	w := bitwriter.New()
	for _, c := range s {
		if !w.Put(uint32(c-'0'), 1) {
			t.Fatal("Put is refused")
		}
	}
	return w
}

func wantWriter(t *testing.T, w *bitwriter.Writer, s string) {
	t.Helper()
	if w.Len() != len(s) || !bytes.Equal(w.Bytes(), writer(t, s).Bytes()) {
		t.Errorf("%d bits: %s, want %d: %s", w.Len(), digitsOf(bitwriter.Of(w.Bytes()...)), len(s), s)
	}
}

func wantPut(t *testing.T, w *bitwriter.Writer, l api.Lengths) {
	t.Helper()
	if e := lengthtable.Put(w, l); e != api.OK {
		t.Errorf("Put(%v): %d", shown(l), e)
	}
}

func wantPutError(t *testing.T, w *bitwriter.Writer, l api.Lengths) {
	t.Helper()
	if e := lengthtable.Put(w, l); e != api.ErrArg {
		t.Errorf("Put(%v): %d", shown(l), e)
	}
}

// The tests' own words: the tables are such, and the rest is not.
func TestTablesAreAsTheyAreCalled(t *testing.T) {
	for _, l := range tables() {
		if !isTable(l) {
			t.Errorf("%v form no table", shown(l))
		}
	}
	for _, l := range append(incomplete(), noTables()...) {
		if isTable(l) {
			t.Errorf("%v form a table", shown(l))
		}
	}
}

// P10.1: Valid

func TestValidOfTheFirstLength(t *testing.T) {
	wantValid(t, api.TableState{}, true)
	for many := -2; many < 4; many++ {
		for now := -3; now < 40; now++ {
			is := many >= 0 && now >= 0 && now < int(math.Pow(2, float64(many)))
			wantValid(t, api.TableState{Bits: many, Now: now}, is)
			for way := 1; way < 3; way++ {
				wantNotValid(t, api.TableState{Bits: many, Now: now, Way: way})
			}
			wantNotValid(t, api.TableState{Bits: many, Now: now, Symbol: 1})
			wantNotValid(t, api.TableState{Bits: many, Now: now, Symbol: 1, Lengths: api.Lengths{uint8(now)}})
			wantNotValid(t, api.TableState{Bits: many, Now: now, Lengths: api.Lengths{1}})
			wantNotValid(t, api.TableState{Bits: many, Now: now, Lengths: api.Lengths{last: 1}})
		}
	}
}

// All states before the third symbol's are those that some digits lead to: they are found by trying all digits.
func TestValidOfAllStatesOfTwoSymbols(t *testing.T) {
	reached := map[api.TableState]bool{{}: true}
	for paths := []string{""}; len(paths) > 0; paths = paths[1:] {
		for _, digit := range []string{"0", "1"} {
			end, _ := endOf(paths[0] + digit)
			if end.e == api.OK && end.c.Symbol < 2 && !reached[end.c] {
				reached[end.c] = true
				paths = append(paths, paths[0]+digit)
			}
		}
	}
	// 15 of the first length, 46 of the first symbol and 256 of the second, the latter both between and within adjustments.
	if len(reached) != 15+2*46+2*256 {
		t.Errorf("%d states", len(reached))
	}
	for c := range reached {
		wantValid(t, c, true)
	}
	for _, first := range []uint8{0, 1, 2, 3, 7, 8, 13, 14, 15, 16, 17, 255} {
		for _, second := range []uint8{0, 1, 15, 16} {
			for symbol := -2; symbol < 2; symbol++ {
				for bits := -2; bits < 8; bits++ {
					for now := -2; now < 19; now++ {
						for way := -2; way < 5; way++ {
							c := api.TableState{Lengths: api.Lengths{first, second}, Symbol: symbol, Bits: bits, Now: now, Way: way}
							wantValid(t, c, reached[c])
						}
					}
				}
			}
		}
	}
}

// thrownState returns a state within an encoding that some digits lead to or nearly so.
func (d *dice) thrownState() api.TableState {
	c := api.TableState{Symbol: d.roll(api.Symbols), Bits: 4 + d.roll(2), Way: d.roll(3)}
	for s := range c.Symbol {
		c.Lengths[s] = uint8(d.roll(16))
	}
	c.Now = d.roll(16)
	if c.Symbol > 0 && d.roll(3) == 0 {
		c.Now = int(c.Lengths[c.Symbol-1])
	}
	switch d.roll(12) {
	case 0:
		c.Lengths[d.roll(api.Symbols)] = uint8(d.roll(20))
	case 1:
		c.Lengths[c.Symbol] = uint8(1 + d.roll(255))
	case 2:
		c.Lengths[last] = uint8(1 + d.roll(255))
	case 3:
		c.Now = d.roll(18)
	}
	return c
}

func TestValidOfThrownStates(t *testing.T) {
	d := dice(4)
	many := 0
	for range 6000 {
		c := d.thrownState()
		is := isLedTo(c)
		wantValid(t, c, is)
		if is {
			many++
			continue
		}
		wantStepError(t, c, d.roll(2), api.ErrArg)
	}
	if many < 1500 || many > 4500 {
		t.Errorf("%d of the states are valid", many)
	}
}

// withPart returns a state with another number in one of its four parts.
func withPart(c api.TableState, part, n int) api.TableState {
	switch part {
	case 0:
		c.Symbol = n
	case 1:
		c.Bits = n
	case 2:
		c.Now = n
	case 3:
		c.Way = n
	}
	return c
}

// notLed returns states near to one, each of which has a part that is too great, below its range or not fitting the others.
func notLed(c api.TableState) []api.TableState {
	var l []api.TableState
	for part := range 4 {
		for _, n := range wild {
			l = append(l, withPart(c, part, n))
		}
		for n := -2; n < 260; n++ {
			other := withPart(c, part, n)
			if other.Symbol < 0 || other.Symbol > api.Symbols || !isLedTo(other) {
				l = append(l, other)
			}
		}
	}
	for _, s := range places {
		for _, length := range append([]uint8{1, 2, 8, 15}, tooGreat...) {
			other := c
			other.Lengths[s] = length
			if !isLedTo(other) {
				l = append(l, other)
			}
		}
	}
	return l
}

func TestValidRefusesEachPartAlone(t *testing.T) {
	rising := "0000" + strings.Repeat("0100", 15)
	for _, path := range []string{"", "0", "1", "011", "111", "0000", "1111", "0111", "01111", "011110", "011111", "0111111", "01110", "011101", "0111010", "0111011", "000010", "00001010", rising, rising + "0", rising + "01", rising + "0011", written(example())[:200], written(rough())[:5000], written(example())[:271], written(example())[:270], written(example())[:269], written(example()), written(smooth(true))} {
		c := after(t, path)
		wantValid(t, c, true)
		for _, other := range notLed(c) {
			wantNotValid(t, other)
		}
	}
}

func TestValidOfLengthsBehindTheSymbol(t *testing.T) {
	for symbol := range api.Symbols {
		c := api.TableState{Symbol: symbol, Bits: 4}
		wantValid(t, c, true)
		for s := range api.Symbols {
			other := c
			other.Lengths[s] = 3
			wantValid(t, other, s < symbol-1)
			other.Lengths[s] = 16
			wantValid(t, other, false)
		}
		c.Bits = 5
		wantValid(t, c, true)
		c.Lengths[symbol] = 1
		wantValid(t, c, false)
	}
}

// Which lengths come before a symbol does not matter before the last one is known.
func TestValidOfLengthsThatAreTooManyAlready(t *testing.T) {
	for symbol := 1; symbol < api.Symbols; symbol++ {
		for _, length := range []uint8{0, 1, 2, 8, 15} {
			c := api.TableState{Symbol: symbol, Bits: 4, Now: int(length)}
			for s := range symbol {
				c.Lengths[s] = length
			}
			wantValid(t, c, true)
			if symbol < last {
				next := c
				next.Lengths[symbol], next.Symbol = length, symbol+1
				wantStep(t, c, 0, outcome{c: next})
			}
		}
	}
}

func TestValidOfDoneStates(t *testing.T) {
	for _, l := range tables() {
		c := api.TableState{Lengths: l, Symbol: api.Symbols, Bits: 4, Now: int(l[last])}
		wantValid(t, c, true)
		for way := -1; way < 4; way++ {
			for bits := -1; bits < 7; bits++ {
				for now := -1; now < 17; now++ {
					other := api.TableState{Lengths: l, Symbol: api.Symbols, Bits: bits, Now: now, Way: way}
					wantValid(t, other, other == c)
				}
			}
		}
	}
	for _, l := range noTables() {
		wantNotValid(t, api.TableState{Lengths: l, Symbol: api.Symbols, Bits: 4, Now: int(l[last])})
	}
}

// P10.1: Step

func TestStepOfTheFirstLength(t *testing.T) {
	for first := range 16 {
		s := fmt.Sprintf("%04b", first)
		wantSteps(t, s)
		c := api.TableState{}
		for i, bit := range bitsOf(s) {
			wantStep(t, c, bit, outcome{c: api.TableState{Bits: i + 1, Now: first >> (3 - i)}})
			c, _, _ = lengthtable.Step(c, bit)
		}
		if c != (api.TableState{Bits: 4, Now: first}) {
			t.Errorf("%s: %s", s, shownState(c))
		}
	}
}

func TestStepAtTheEdges(t *testing.T) {
	one := api.TableState{Lengths: api.Lengths{7}, Symbol: 1, Bits: 4, Now: 7}
	in := one
	in.Bits = 5
	wantStep(t, one, 1, outcome{c: in})
	rises, falls := one, one
	rises.Now, rises.Way = 8, 1
	falls.Now, falls.Way = 6, 2
	wantStep(t, in, 0, outcome{c: rises})
	wantStep(t, in, 1, outcome{c: falls})
	two := api.TableState{Lengths: api.Lengths{7, 8}, Symbol: 2, Bits: 4, Now: 8}
	wantStep(t, rises, 0, outcome{c: two})
	two.Lengths[1], two.Now = 6, 6
	wantStep(t, falls, 0, outcome{c: two})
	two.Lengths[1], two.Now = 7, 7
	wantStep(t, one, 0, outcome{c: two})
	rises.Bits, falls.Bits = 5, 5
	wantStepError(t, rises, 1, api.ErrTable)
	wantStepError(t, falls, 0, api.ErrTable)
	rises.Now, falls.Now = 9, 5
	wantStep(t, rises, 0, outcome{c: api.TableState{Lengths: api.Lengths{7}, Symbol: 1, Bits: 4, Now: 10, Way: 1}})
	wantStep(t, falls, 1, outcome{c: api.TableState{Lengths: api.Lengths{7}, Symbol: 1, Bits: 4, Now: 4, Way: 2}})
}

// Adjustments end at 15 and at 0, and those of one symbol go in one direction.
func TestStepWithinAnAdjustment(t *testing.T) {
	for _, symbol := range []int{0, 1, 2, 100, 256, last} {
		for from := range 16 {
			for now := range 16 {
				way := 0
				if now > from {
					way = 1
				} else if now < from {
					way = 2
				}
				c := api.TableState{Symbol: symbol, Bits: 5, Now: now, Way: way}
				if symbol > 0 {
					c.Lengths[symbol-1] = uint8(from)
				}
				wantValid(t, c, true)
				higher, lower := c, c
				higher.Bits, higher.Now, higher.Way = 4, now+1, 1
				lower.Bits, lower.Now, lower.Way = 4, now-1, 2
				if way == 2 || now == 15 {
					wantStepError(t, c, 0, api.ErrTable)
				} else {
					wantStep(t, c, 0, outcome{c: higher})
				}
				if way == 1 || now == 0 {
					wantStepError(t, c, 1, api.ErrTable)
				} else {
					wantStep(t, c, 1, outcome{c: lower})
				}
			}
		}
	}
}

func TestStepOfTheExample(t *testing.T) {
	wantSteps(t, written(example()))
	wantStep(t, after(t, "0001010"), 0, outcome{c: api.TableState{Lengths: api.Lengths{1, 2}, Symbol: 2, Bits: 4, Now: 2}})
	wantStepError(t, after(t, "0000101"), 1, api.ErrTable)
}

func TestStepOfEncodings(t *testing.T) {
	for _, l := range tables() {
		s := written(l)
		wantSteps(t, s)
		var c api.TableState
		for i, bit := range bitsOf(s) {
			o, done, e := lengthtable.Step(c, bit)
			if e != api.OK || done != (i == len(s)-1) {
				t.Fatalf("%v, bit %d: %v, %d", shown(l), i, done, e)
			}
			c = o
		}
		if c != (api.TableState{Lengths: l, Symbol: api.Symbols, Bits: 4, Now: int(l[last])}) {
			t.Errorf("%v: %s", shown(l), shownState(c))
		}
	}
}

func TestStepOfAllShortSequences(t *testing.T) {
	for many := range 13 {
		for n := range 1 << many {
			s := fmt.Sprintf("%0*b", many, n)[:many]
			end, length := endOf(s)
			if length != many || end.e != api.OK {
				continue
			}
			wantValid(t, end.c, true)
			for bit, digit := range []string{"0", "1"} {
				next, _ := endOf(s + digit)
				wantStep(t, end.c, bit, next)
			}
		}
	}
}

func TestStepOfThrownStates(t *testing.T) {
	d := dice(5)
	for range 3000 {
		c := d.thrownState()
		if !isLedTo(c) {
			continue
		}
		s := pathTo(c)
		for bit, digit := range []string{"0", "1"} {
			next, _ := endOf(s + digit)
			wantStep(t, c, bit, next)
		}
	}
}

// The last symbol is Eob: its length makes the table complete or not, and it must have one.
func TestStepAtTheLastSymbol(t *testing.T) {
	for _, l := range append(tables(), incomplete()...) {
		other := l
		for length := range 16 {
			other[last] = uint8(length)
			s := written(other)
			c := after(t, s[:len(s)-1])
			wantValid(t, c, true)
			if c.Symbol != last || c.Now != length || c.Bits != 4 {
				t.Errorf("%v: %s", shown(other), shownState(c))
			}
			if !isTable(other) {
				wantStepError(t, c, 0, api.ErrTable)
				continue
			}
			wantStep(t, c, 0, outcome{c: api.TableState{Lengths: other, Symbol: api.Symbols, Bits: 4, Now: length}, done: true})
		}
	}
}

// Without adjustments the last symbol has the length of the one before it.
func TestStepWithoutAdjustmentsOfTheLastSymbol(t *testing.T) {
	for _, l := range append(tables(), incomplete()...) {
		s := written(l)
		before := after(t, strings.TrimSuffix(s, moved(int(l[last-1]), int(l[last]))+"0"))
		l[last] = l[last-1]
		if before.Symbol != last || before.Now != int(l[last]) || before.Way != 0 {
			t.Errorf("%v: %s", shown(l), shownState(before))
		}
		if !isTable(l) {
			wantStepError(t, before, 0, api.ErrTable)
			continue
		}
		wantStep(t, before, 0, outcome{c: api.TableState{Lengths: l, Symbol: api.Symbols, Bits: 4, Now: int(l[last])}, done: true})
	}
}

func TestStepRefusesDoneStates(t *testing.T) {
	for _, l := range tables() {
		c := api.TableState{Lengths: l, Symbol: api.Symbols, Bits: 4, Now: int(l[last])}
		wantValid(t, c, true)
		for _, bit := range append([]int{0, 1}, notBits...) {
			wantStepError(t, c, bit, api.ErrArg)
		}
	}
}

func TestStepRefusesWrongBits(t *testing.T) {
	for _, path := range []string{"", "0", "1", "01", "111", "0000", "1111", "01111", "0111110", "00001", "11111", "011110", "0111101", "011111", "0111111", written(example())[:100], written(rough())[:4001], written(example())[:271], written(api.Lengths{0: 1, 1: 2, last: 3})[:273]} {
		for _, bit := range notBits {
			wantStepError(t, after(t, path), bit, api.ErrArg)
		}
	}
}

func TestStepOfWildStates(t *testing.T) {
	numbers := append([]int{0, 1, 4, 5, 15, 258}, wild...)
	for _, l := range []api.Lengths{{}, {1}, {last: 1}, example(), evenly(8, api.Symbols), evenly(255, api.Symbols)} {
		for _, n := range wild {
			for _, m := range numbers {
				for _, parts := range [][4]int{{n, m, m, m}, {m, n, m, m}, {m, m, n, m}, {m, m, m, n}, {n, 4, m, 0}, {n, 5, m, 1}, {m, 4, n, 2}, {1, m, n, 0}, {m, n, 0, 0}, {258, 4, n, 0}, {258, 4, 2, n}, {258, n, 2, 0}} {
					wantNotValid(t, api.TableState{Lengths: l, Symbol: parts[0], Bits: parts[1], Now: parts[2], Way: parts[3]})
				}
			}
		}
	}
}

// P10.2: Of

func TestOfOfTheExample(t *testing.T) {
	wantOf(t, example(), "0001"+"0"+"100"+"11110"+strings.Repeat("0", 254)+"10100")
}

func TestOfWithJumps(t *testing.T) {
	up, down := strings.Repeat("10", 15)+"0", strings.Repeat("11", 15)+"0"
	to14 := "100" + strings.Repeat("100", 13)
	l := jumps()
	wantOf(t, l[0], "1111"+"0"+down+up+down+strings.Repeat("0", api.Symbols-14-4)+to14)
	wantOf(t, l[1], "0000"+"0"+up+down+up+down+strings.Repeat("0", api.Symbols-14-5)+to14)
	wantOf(t, l[2], "1111"+"0"+strings.Repeat("11", 14)+"0"+strings.Repeat("100", 13)+strings.Repeat("11", 14)+"0"+strings.Repeat("0", api.Symbols-17)+up)
	wantOf(t, l[4], "0001"+"0"+strings.Repeat("100", 13)+strings.Repeat("11", 14)+"0"+strings.Repeat("0", api.Symbols-18)+up+down+up)
}

func TestOfTheFewestBits(t *testing.T) {
	wantOf(t, smooth(false), "1000"+strings.Repeat("0", 254)+"100"+"000")
	wantOf(t, smooth(true), "1001"+strings.Repeat("0", 4)+"110"+strings.Repeat("0", 253))
}

func TestOfTheFewestSymbols(t *testing.T) {
	wantOf(t, api.Lengths{0: 1, last: 1}, "0001"+"0"+"110"+strings.Repeat("0", 255)+"100")
	wantOf(t, api.Lengths{256: 1, last: 1}, "0000"+strings.Repeat("0", 256)+"100"+"0")
	wantOf(t, api.Lengths{1: 1, last: 1}, "0000"+"0"+"100"+"110"+strings.Repeat("0", 254)+"100")
}

func TestOfFollowsTheDefinition(t *testing.T) {
	for _, l := range tables() {
		wantOf(t, l, written(l))
	}
}

func TestOfRefusesLengthsThatFormNoTable(t *testing.T) {
	for _, l := range noTables() {
		if bits, e := lengthtable.Of(l); len(bits) != 0 || e != api.ErrArg {
			t.Errorf("Of(%v): %s, %d", shown(l), digitsOf(bits), e)
		}
	}
}

func TestOfReturnsNewMemory(t *testing.T) {
	for _, l := range tables()[:12] {
		first, _ := lengthtable.Of(l)
		second, _ := lengthtable.Of(l)
		for i := range first[:cap(first)] {
			first[:cap(first)][i] = 9
		}
		_ = append(first, 9)
		if digitsOf(second) != written(l) {
			t.Errorf("%v: the results share memory: %s", shown(l), digitsOf(second))
		}
		wantOf(t, l, written(l))
	}
}

// P10.2: Put

func TestPutBehindAnyNumberOfBits(t *testing.T) {
	d := dice(6)
	for _, l := range tables()[:12] {
		for many := range 25 {
			for _, before := range []string{strings.Repeat("0", many), strings.Repeat("1", many), d.digits(many)} {
				w := writer(t, before)
				wantPut(t, w, l)
				bits, _ := lengthtable.Of(l)
				wantWriter(t, w, before+digitsOf(bits))
			}
		}
	}
}

func TestPutAppendsWhatOfReturns(t *testing.T) {
	d := dice(7)
	for _, l := range tables() {
		before := d.digits(d.roll(100))
		w := writer(t, before)
		wantPut(t, w, l)
		wantWriter(t, w, before+written(l))
	}
}

func TestPutGoesOnAfterPut(t *testing.T) {
	for _, before := range []string{"", "1", "101"} {
		w := writer(t, before)
		s := before
		for _, l := range tables()[:12] {
			wantPut(t, w, l)
			s += written(l)
			wantPutError(t, w, api.Lengths{1})
			w.Put(1, 1)
			s += "1"
			wantWriter(t, w, s)
		}
	}
}

func TestPutLeavesTheWriterWithAnError(t *testing.T) {
	for _, before := range []string{"", "1", "0110011", "10110010", "111000111"} {
		w, other := writer(t, before), writer(t, before)
		for _, l := range noTables() {
			wantPutError(t, w, l)
			if w.Len() != len(before) {
				t.Errorf("Put(%v): %d bits", shown(l), w.Len())
			}
		}
		wantWriter(t, w, before)
		wantPut(t, w, example())
		wantWriter(t, w, before+written(example()))
		wantWriter(t, other, before)
	}
}

func TestPutWithoutAWriter(t *testing.T) {
	for _, l := range append(tables(), noTables()...) {
		wantPutError(t, nil, l)
	}
}

// A writer that New did not make has no bits.
func TestPutOfAZeroWriter(t *testing.T) {
	var w bitwriter.Writer
	wantPutError(t, &w, api.Lengths{})
	wantPut(t, &w, example())
	wantWriter(t, &w, written(example()))
}

// P10.3

func TestReadOfTheExample(t *testing.T) {
	s := "0001" + "0" + "100" + "11110" + strings.Repeat("0", 254) + "10100"
	wantRead(t, bitsOf(s), example(), 272)
	wantReadError(t, bitsOf("00001011"), api.ErrTable)
}

func TestReadOfNothing(t *testing.T) {
	wantReadError(t, nil, api.ErrShort)
	wantReadError(t, []int{}, api.ErrShort)
	wantReadError(t, bitsOf(written(example()))[:0], api.ErrShort)
}

// Bits that follow are not looked at.
func TestReadWhateverFollows(t *testing.T) {
	for _, l := range tables() {
		s := written(l)
		wantRead(t, bitsOf(s), l, len(s))
		for _, behind := range []string{"0", "1", "00", "1011", "1110", strings.Repeat("1", 40), s, "0" + s} {
			wantRead(t, bitsOf(s+behind), l, len(s))
		}
		for _, bit := range notBits {
			wantRead(t, append(bitsOf(s), bit), l, len(s))
			wantRead(t, append(bitsOf(s), 0, bit, bit), l, len(s))
		}
	}
}

// The first length may be any; symbol 0 then needs adjustments.
func TestReadOfOtherFirstLengths(t *testing.T) {
	for _, l := range tables() {
		for first := range 16 {
			s := spelt(first, l)
			wantRead(t, bitsOf(s), l, len(s))
			wantReadError(t, bitsOf(s[:len(s)-1]), api.ErrShort)
		}
	}
	l := api.Lengths{0: 1, last: 1}
	wantRead(t, bitsOf("1111"+strings.Repeat("11", 14)+written(l)[4:]), l, 4+28+len(written(l))-4)
	wantRead(t, bitsOf("0000"+"10"+written(l)[4:]), l, 2+len(written(l)))
	wantReadError(t, bitsOf("0000"+"1010"+"11"+written(l)[4:]), api.ErrTable)
	wantReadError(t, bitsOf("0011"+strings.Repeat("11", 3)+"10"+written(l)[4:]), api.ErrTable)
}

func TestReadOfBitsThatEndAtEachPlace(t *testing.T) {
	for _, l := range []api.Lengths{example(), smooth(true), jumps()[0], jumps()[4], rough(), {256: 1, last: 1}} {
		bits := bitsOf(written(l))
		for many := range bits {
			wantReadError(t, bits[:many], api.ErrShort)
		}
		wantReadError(t, slices.Clip(bits[:len(bits)-1]), api.ErrShort)
		wantRead(t, bits, l, len(bits))
	}
}

// The fewest bits that can decide are 262, the most 8002: neither form a table, but one bit less is too short for that to show.
func TestReadOfTheFewestAndTheMostBits(t *testing.T) {
	for first := range 16 {
		bits := bitsOf(fmt.Sprintf("%04b", first) + strings.Repeat("0", api.Symbols))
		if len(bits) != 262 {
			t.Fatal(len(bits))
		}
		wantReadError(t, bits, api.ErrTable)
		wantReadError(t, append(bits, 2), api.ErrTable)
		wantReadError(t, bits[:261], api.ErrShort)
		wantReadError(t, append(slices.Clone(bits[:261]), 2), api.ErrArg)
	}
	up, down := strings.Repeat("10", 15)+"0", strings.Repeat("11", 15)+"0"
	for _, s := range []string{"0000" + strings.Repeat(up+down, 129), "1111" + strings.Repeat(down+up, 129)} {
		bits := bitsOf(s)
		if len(bits) != 8002 {
			t.Fatal(len(bits))
		}
		wantSteps(t, s)
		wantReadError(t, bits, api.ErrTable)
		wantReadError(t, append(bits, 2), api.ErrTable)
		wantReadError(t, bits[:8001], api.ErrShort)
		wantReadError(t, append(slices.Clone(bits[:8001]), 2), api.ErrArg)
	}
}

func TestReadOfLengthsThatFormNoTable(t *testing.T) {
	for _, l := range incomplete() {
		bits := bitsOf(written(l))
		wantReadError(t, bits, api.ErrTable)
		wantReadError(t, append(bits, 0, 1, 2), api.ErrTable)
		wantReadError(t, bits[:len(bits)-1], api.ErrShort)
		wantReadError(t, append(bits[:len(bits)-1], 2), api.ErrArg)
	}
}

// An adjustment that is not allowed is an error at its second bit.
func TestReadOfWrongAdjustments(t *testing.T) {
	for _, symbol := range []int{0, 1, 2, 100, 256, last} {
		before := strings.Repeat("0", symbol)
		for _, wrong := range []string{
			"1111" + before + "10", "0000" + before + "11",
			"0111" + before + "1011", "0111" + before + "1110", "0111" + before + "10101011", "0111" + before + "11111110",
			"0001" + before + "1111", "1110" + before + "1010", "0000" + before + "1011", "1111" + before + "1110",
			"0000" + before + strings.Repeat("10", 16), "1111" + before + strings.Repeat("11", 16),
			"0000" + before + strings.Repeat("10", 15) + "11", "1111" + before + strings.Repeat("11", 15) + "10",
		} {
			bits := bitsOf(wrong)
			wantReadError(t, bits, api.ErrTable)
			wantReadError(t, append(bits, 2), api.ErrTable)
			wantReadError(t, append(bits, bitsOf(written(example()))...), api.ErrTable)
			wantReadError(t, bits[:len(bits)-1], api.ErrShort)
			wantReadError(t, append(slices.Clone(bits[:len(bits)-1]), 2), api.ErrArg)
		}
	}
}

func TestReadOfWrongBits(t *testing.T) {
	for _, bit := range notBits {
		wantReadError(t, []int{bit}, api.ErrArg)
		wantReadError(t, []int{bit, 2}, api.ErrArg)
		wantReadError(t, []int{0, bit}, api.ErrArg)
	}
	for _, l := range []api.Lengths{example(), smooth(false), jumps()[1], jumps()[4]} {
		right := bitsOf(written(l))
		for at := range right {
			bits := slices.Clone(right)
			bits[at] = notBits[at%len(notBits)]
			wantReadError(t, bits, api.ErrArg)
			wantReadError(t, bits[:at+1], api.ErrArg)
			wantReadError(t, bits[:at], api.ErrShort)
		}
	}
}

// Of two errors the one that comes first is told, whichever it is.
func TestReadReturnsTheFirstError(t *testing.T) {
	s := "0111" + "0" + "100" + "1011"
	for _, bit := range notBits {
		for at := range len(s) + 3 {
			bits := append(bitsOf(s), 0, 0, 0)
			bits[at] = bit
			want := api.ErrArg
			if at >= len(s) {
				want = api.ErrTable
			}
			wantReadError(t, bits, want)
			if at < len(s) {
				wantReadError(t, append(bits[:at], bit), api.ErrArg)
			}
		}
	}
}

func TestReadOfAllShortSequences(t *testing.T) {
	for many := range 15 {
		for n := range 1 << many {
			wantReadByDefinition(t, bitsOf(fmt.Sprintf("%0*b", many, n)[:many]))
		}
	}
}

// sequences returns digits that begin with encodings, right ones and spoilt ones, and thrown ones.
func sequences() []string {
	d := dice(8)
	var l []string
	for _, lengths := range append(tables(), incomplete()...) {
		s := spelt(d.roll(16), lengths)
		l = append(l, s, s+d.digits(d.roll(20)), d.spoilt(s), d.spoilt(d.spoilt(s)+d.digits(40)), d.spoilt(written(lengths)))
	}
	for range 300 {
		l = append(l, d.digits(d.roll(400)), d.digits(4)+strings.Repeat("0", d.roll(258))+d.digits(d.roll(60)))
	}
	return l
}

func TestReadFollowsTheDefinition(t *testing.T) {
	d := dice(9)
	for _, s := range sequences() {
		bits := bitsOf(s)
		wantReadByDefinition(t, bits)
		if len(bits) > 0 {
			bits[d.roll(len(bits))] = notBits[d.roll(len(notBits))]
			wantReadByDefinition(t, bits)
		}
	}
}

func TestStepFollowsTheDefinition(t *testing.T) {
	for _, s := range sequences() {
		wantSteps(t, s)
	}
}

// readBySteps reads with Step.
func readBySteps(bits []int) (api.Lengths, int, api.Errno) {
	var c api.TableState
	for i, bit := range bits {
		o, done, e := lengthtable.Step(c, bit)
		if e != api.OK {
			return api.Lengths{}, 0, e
		}
		if done {
			return o.Lengths, i + 1, api.OK
		}
		c = o
	}
	return api.Lengths{}, 0, api.ErrShort
}

func TestReadAgreesWithStep(t *testing.T) {
	d := dice(10)
	for _, s := range sequences() {
		for range 2 {
			bits := bitsOf(s)
			if len(bits) > 0 && d.roll(3) == 0 {
				bits[d.roll(len(bits))] = notBits[d.roll(len(notBits))]
			}
			l, n, e := readBySteps(bits)
			if o, many, err := lengthtable.Read(bits...); o != l || many != n || err != e {
				t.Errorf("Read(%s): %v, %d, %d, by Step %v, %d, %d", digitsOf(bits), shown(o), many, err, shown(l), n, e)
			}
		}
	}
}

func TestReadLeavesItsArgumentsAlone(t *testing.T) {
	for _, s := range []string{"", "0", "00001011", written(example()), written(example())[:100], written(rough()), written(rough()) + "1"} {
		bits := append(bitsOf(s), 7, 8, 9)[:len(s)]
		for range 2 {
			lengthtable.Read(bits...)
			if digitsOf(bits) != s || !slices.Equal(bits[len(s):len(s)+3], []int{7, 8, 9}) {
				t.Errorf("%s is now %s, and behind it %d", s, digitsOf(bits), bits[len(s):len(s)+3])
			}
		}
	}
	bits := bitsOf(written(example()))
	l, _, _ := lengthtable.Read(bits...)
	clear(bits)
	if l != example() {
		t.Errorf("the lengths changed: %v", shown(l))
	}
}

func TestReadStopsAtTheLengthNotTheCapacity(t *testing.T) {
	bits := bitsOf(written(example()))
	wantReadError(t, bits[:271], api.ErrShort)
	wantReadError(t, bits[:3], api.ErrShort)
	wantRead(t, bits[:272], example(), 272)
}

// P10.4

func TestReadReturnsWhatOfAndPutWrote(t *testing.T) {
	d := dice(11)
	for _, l := range tables() {
		bits, e := lengthtable.Of(l)
		if e != api.OK || len(bits) < 262 || len(bits) > 8002 {
			t.Errorf("Of(%v): %d bits, %d", shown(l), len(bits), e)
		}
		many := len(bits)
		wantRead(t, bits, l, many)
		wantRead(t, append(bits, bitsOf(d.digits(d.roll(30)))...), l, many)
		before, behind := d.digits(d.roll(30)), d.digits(32)
		w := writer(t, before)
		wantPut(t, w, l)
		for _, bit := range bitsOf(behind) {
			w.Put(uint32(bit), 1)
		}
		wantRead(t, bitwriter.Of(w.Bytes()...)[len(before):], l, many)
	}
}

func TestReadOfManyEncodingsInARow(t *testing.T) {
	w := bitwriter.New()
	for _, l := range tables() {
		wantPut(t, w, l)
	}
	rest := bitwriter.Of(w.Bytes()...)
	for _, want := range tables() {
		l, n, e := lengthtable.Read(rest...)
		if l != want || e != api.OK {
			t.Fatalf("%v, %d, want %v", shown(l), e, shown(want))
		}
		rest = rest[n:]
	}
}

func TestOfNeverTakesMoreBitsThanWereRead(t *testing.T) {
	d := dice(12)
	read := 0
	seqs := sequences()
	for _, l := range tables() {
		for first := range 16 {
			seqs = append(seqs, spelt(first, l)+d.digits(3))
		}
	}
	for _, s := range seqs {
		l, n, e := lengthtable.Read(bitsOf(s)...)
		if e != api.OK {
			continue
		}
		read++
		bits, e := lengthtable.Of(l)
		if e != api.OK || len(bits) > n {
			t.Errorf("%d bits of %v, %d, and %d were read", len(bits), shown(l), e, n)
		}
		if again := strings.HasPrefix(s, written(l)); again != (len(bits) == n) {
			t.Errorf("%d bits of %v, and %d were read from %s", len(bits), shown(l), n, s)
		}
	}
	if read < 1000 {
		t.Errorf("only %d were read", read)
	}
}

// Calls do not depend on earlier ones.
func TestCallsAreRepeatable(t *testing.T) {
	for _, l := range tables()[:20] {
		s := written(l)
		c := after(t, s[:len(s)-1])
		for range 3 {
			wantOf(t, l, s)
			wantRead(t, bitsOf(s), l, len(s))
			wantStep(t, c, 0, outcome{c: api.TableState{Lengths: l, Symbol: api.Symbols, Bits: 4, Now: int(l[last])}, done: true})
			wantStepError(t, c, 2, api.ErrArg)
			wantReadError(t, bitsOf("00001011"), api.ErrTable)
		}
	}
}
