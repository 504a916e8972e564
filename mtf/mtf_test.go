package mtf_test

import (
	"bytes"
	"fmt"
	"math"
	"slices"
	"testing"

	"winepress/api"
	"winepress/mtf"
)

// notPlaces holds numbers that are no index of a list; the low bits of some are.
var notPlaces = []int{
	-1, -2, -3, -127, -128, -129, -254, -255, -256, -257, -512, -1 << 16, -1<<16 + 5, -1<<31 - 1, -1 << 31, -1<<31 + 5, -1 << 32, -1<<32 + 5, -1<<62 + 5, math.MinInt, math.MinInt + 1, math.MinInt + 255,
	256, 257, 258, 300, 511, 512, 1<<16 - 1, 1 << 16, 1<<16 + 5, 1<<31 - 1, 1 << 31, 1<<31 + 5, 1<<32 - 1, 1 << 32, 1<<32 + 5, 1<<40 + 255, 1 << 62, 1<<62 + 5, math.MaxInt - 255, math.MaxInt - 1, math.MaxInt,
}

// dice gives numbers that look thrown, the same ones in every run.
type dice uint64

func (d *dice) roll(sides int) int {
	*d = *d*6364136223846793005 + 1442695040888963407
	return int(uint64(*d) >> 33 % uint64(sides))
}

// text returns that many bytes, each one of so many that follow a first one.
func (d *dice) text(length int, first byte, many int) []byte {
	text := make([]byte, length)
	for i := range text {
		text[i] = first + byte(d.roll(many))
	}
	return text
}

// shuffled returns all bytes in a thrown order.
func (d *dice) shuffled() api.List {
	l := inOrder()
	for i := range l {
		j := i + d.roll(len(l)-i)
		l[i], l[j] = l[j], l[i]
	}
	return l
}

// inOrder returns 0 to 255.
func inOrder() api.List {
	return listOf(func(i int) int { return i })
}

// listOf returns the list whose bytes follow from their indexes.
func listOf(at func(int) int) api.List {
	var l api.List
	for i := range l {
		l[i] = byte(at(i))
	}
	return l
}

// starting returns the list of these bytes and, behind them, the others in order.
func starting(first ...byte) api.List {
	rest := inOrder()
	return api.List(append(first, slices.DeleteFunc(rest[:], func(c byte) bool { return slices.Contains(first, c) })...))
}

// validLists returns lists with all bytes, in order, in reverse, rotated, with two exchanged, and thrown.
func validLists() []api.List {
	d := dice(1)
	l := []api.List{inOrder(), listOf(func(i int) int { return 255 - i }), listOf(func(i int) int { return i * 3 }), listOf(func(i int) int { return i ^ 1 }), listOf(func(i int) int { return i ^ 128 })}
	for _, by := range []int{1, 2, 127, 128, 255} {
		l = append(l, listOf(func(i int) int { return i + by }))
	}
	for _, pair := range [][2]int{{0, 1}, {0, 255}, {254, 255}, {1, 128}} {
		other := inOrder()
		other[pair[0]], other[pair[1]] = other[pair[1]], other[pair[0]]
		l = append(l, other)
	}
	for range 15 {
		l = append(l, d.shuffled())
	}
	return l
}

// otherLists returns lists in which some bytes occur twice, three times, often or everywhere, and others not at all.
func otherLists() []api.List {
	d := dice(2)
	l := []api.List{{}, {1}, {0: 255, 255: 255}, {255: 1}}
	for _, many := range []int{2, 3, 16, 128, 255} {
		l = append(l, listOf(func(i int) int { return i % many }), listOf(func(i int) int { return i / many }), listOf(func(i int) int { return 255 - i%many }))
	}
	for _, base := range validLists() {
		twice := base
		twice[d.roll(128)] = twice[128+d.roll(128)]
		thrice := twice
		thrice[1], thrice[100] = thrice[255], thrice[255]
		l = append(l, twice, thrice)
	}
	for _, many := range []int{2, 3, 10, 100, 256} {
		l = append(l, api.List(d.text(256, 0, many)), api.List(d.text(256, byte(256-many), many)))
	}
	return l
}

func allLists() []api.List { return append(validLists(), otherLists()...) }

// isValid follows the definition.
func isValid(l api.List) bool {
	for c := range 256 {
		if bytes.Count(l[:], []byte{byte(c)}) != 1 {
			return false
		}
	}
	return true
}

// positionOf follows the definition, with -1 for a byte that does not occur.
func positionOf(l api.List, c byte) int {
	for i := range l {
		if l[i] == c {
			return i
		}
	}
	return -1
}

// moved returns the list after moving the byte at an index to the front, by the definition.
func moved(l api.List, place int) api.List {
	return api.List(slices.Concat(l[place:place+1], l[:place], l[place+1:]))
}

// placesOf returns the positions of a text's bytes without a list: before a byte are those that occurred since it did; if it did not yet, before it are the smaller ones and all that occurred.
func placesOf(text []byte) []byte {
	places := make([]byte, len(text))
	for i, c := range text {
		before := map[byte]bool{}
		j := i - 1
		for ; j >= 0 && text[j] != c; j-- {
			before[text[j]] = true
		}
		if j < 0 {
			for smaller := range c {
				before[smaller] = true
			}
		}
		places[i] = byte(len(before))
	}
	return places
}

// textOf returns the bytes at positions, from lists made by the definition.
func textOf(places []byte) []byte {
	text := make([]byte, len(places))
	l := inOrder()
	for i, place := range places {
		text[i] = l[place]
		l = moved(l, int(place))
	}
	return text
}

// texts returns texts of many kinds, to be taken as positions, too.
func texts() [][]byte {
	d := dice(3)
	l := validLists()
	all := [][]byte{nil, {}, {0}, {255}, {0, 255}, {255, 0}, {0, 0}, {255, 255}, {0, 255, 0, 255, 255, 0}, []byte("banana"), []byte("ananab"), []byte("bnnaaa"), l[0][:], l[1][:], slices.Concat(l[0][:], l[0][:]), slices.Concat(l[0][:], l[1][:])}
	for _, many := range []int{1, 2, 3, 4, 16, 100, 128, 255, 256} {
		for _, length := range []int{3, 10, 255, 256, 257, 1000, 5000} {
			all = append(all, d.text(length, 0, many), d.text(length, byte(d.roll(256)), many), d.text(length, byte(256-many), many))
		}
	}
	for _, c := range []byte{0, 1, 2, 127, 128, 254, 255} {
		all = append(all, bytes.Repeat([]byte{c}, 3000))
	}
	for range 20 {
		one := d.shuffled()
		all = append(all, one[:], slices.Concat(one[:100], one[50:], one[:]))
	}
	return all
}

// shortTexts returns all texts of up to five bytes from five ones.
func shortTexts() [][]byte {
	all := [][]byte{{}}
	for first := 0; len(all[first]) < 5; first++ {
		for _, c := range []byte{0, 1, 2, 128, 255} {
			all = append(all, append(slices.Clone(all[first]), c))
		}
	}
	return all
}

// brief returns the first bytes of many, for messages.
func brief(b []byte) string {
	if len(b) > 300 {
		return fmt.Sprintf("%d and more, %d in all", b[:300], len(b))
	}
	return fmt.Sprint(b)
}

func wantValid(t *testing.T, l api.List, want bool) {
	t.Helper()
	if ok := mtf.Valid(l); ok != want {
		t.Errorf("Valid(%x): %v", l, ok)
	}
}

func wantPut(t *testing.T, l api.List, c byte, want api.List, place int) {
	t.Helper()
	if o, p := mtf.Put(l, c); o != want || p != place {
		t.Errorf("Put(%x, %d): %x, %d, want %x, %d", l, c, o, p, want, place)
	}
}

func wantTake(t *testing.T, l api.List, place int, want api.List, c byte) {
	t.Helper()
	if o, b, ok := mtf.Take(l, place); o != want || b != c || !ok {
		t.Errorf("Take(%x, %d): %x, %d, %v, want %x, %d, true", l, place, o, b, ok, want, c)
	}
}

func wantNoTake(t *testing.T, l api.List, place int) {
	t.Helper()
	if o, c, ok := mtf.Take(l, place); o != l || c != 0 || ok {
		t.Errorf("Take(%x, %d): %x, %d, %v, want the list, 0, false", l, place, o, c, ok)
	}
}

func wantForth(t *testing.T, text, want []byte) {
	t.Helper()
	if places := mtf.Forth(text...); !bytes.Equal(places, want) {
		t.Errorf("Forth(%s): %s, want %s", brief(text), brief(places), brief(want))
	}
}

func wantBack(t *testing.T, places, want []byte) {
	t.Helper()
	if text := mtf.Back(places...); !bytes.Equal(text, want) {
		t.Errorf("Back(%s): %s, want %s", brief(places), brief(text), brief(want))
	}
}

// wantBoth asks that Forth gives these positions for a text, and Back the text for them.
func wantBoth(t *testing.T, text, places []byte) {
	t.Helper()
	wantForth(t, text, places)
	wantBack(t, places, text)
}

// P13.1

func TestNewReturnsTheInitialList(t *testing.T) {
	l := mtf.New()
	for i := range 256 {
		if int(l[i]) != i {
			t.Errorf("New: %d at %d", l[i], i)
		}
	}
	wantValid(t, l, true)
}

func TestNewReturnsANewListInEachCall(t *testing.T) {
	l := mtf.New()
	clear(l[:])
	if other := mtf.New(); other != inOrder() {
		t.Errorf("New: %x", other)
	}
}

func TestValidOfValidLists(t *testing.T) {
	for _, l := range validLists() {
		wantValid(t, l, true)
	}
}

// All orders in which two bytes of a valid list are exchanged.
func TestValidOfTwoBytesExchanged(t *testing.T) {
	d := dice(4)
	for _, base := range []api.List{inOrder(), d.shuffled()} {
		for i := range base {
			for j := range i {
				l := base
				l[i], l[j] = l[j], l[i]
				wantValid(t, l, true)
			}
		}
	}
}

// A byte occurs twice, and so another one doesn't: all pairs of bytes.
func TestValidOfAByteTwice(t *testing.T) {
	d := dice(5)
	for _, base := range []api.List{inOrder(), listOf(func(i int) int { return 255 - i }), d.shuffled()} {
		for i := range base {
			for j := range base {
				l := base
				l[i] = base[j]
				wantValid(t, l, i == j)
			}
		}
	}
}

// A byte occurs three times, and so two others don't.
func TestValidOfAByteThrice(t *testing.T) {
	d := dice(6)
	for _, base := range validLists() {
		for i := range base {
			first, second := (i+1+d.roll(255))%256, (i+1+d.roll(255))%256
			l := base
			l[first], l[second] = base[i], base[i]
			wantValid(t, l, false)
		}
	}
}

func TestValidOfTwoBytesTwice(t *testing.T) {
	d := dice(7)
	for _, base := range validLists() {
		for range 100 {
			l := base
			i := d.roll(253)
			l[i], l[i+1] = base[i+2], base[i+3]
			wantValid(t, l, false)
			l[i], l[i+1], l[i+2], l[i+3] = base[i], base[i], base[i+1], base[i+1]
			wantValid(t, l, false)
		}
	}
}

func TestValidOfOneByteEverywhere(t *testing.T) {
	for c := range 256 {
		wantValid(t, listOf(func(int) int { return c }), false)
		for at := range 256 {
			l := listOf(func(int) int { return c })
			l[at]++
			wantValid(t, l, false)
		}
	}
}

func TestValidOfOtherLists(t *testing.T) {
	for _, l := range otherLists() {
		wantValid(t, l, false)
	}
}

func TestValidFollowsTheDefinition(t *testing.T) {
	for _, l := range allLists() {
		wantValid(t, l, isValid(l))
	}
}

// P13.2

func TestPutOfOrdinaryBytes(t *testing.T) {
	wantPut(t, inOrder(), 2, starting(2), 2)
	wantPut(t, starting(2), 2, starting(2), 0)
	wantPut(t, starting(2), 0, starting(0, 2), 1)
	wantPut(t, starting(0, 2), 1, starting(1, 0, 2), 2)
	wantPut(t, inOrder(), 128, starting(128), 128)
	wantPut(t, starting(7, 9, 200), 100, starting(100, 7, 9, 200), 101)
}

func TestPutOfTheFirstAndTheLastByte(t *testing.T) {
	wantPut(t, inOrder(), 0, inOrder(), 0)
	wantPut(t, inOrder(), 1, starting(1), 1)
	wantPut(t, inOrder(), 254, starting(254), 254)
	wantPut(t, inOrder(), 255, starting(255), 255)
	wantPut(t, starting(255), 255, starting(255), 0)
	wantPut(t, starting(255), 254, starting(254, 255), 255)
}

func TestPutOfEachByte(t *testing.T) {
	for _, l := range validLists() {
		for place, c := range l {
			wantPut(t, l, c, moved(l, place), place)
		}
	}
}

// It is the first one that is moved; the others stay as they are.
func TestPutOfAByteThatOccursAgain(t *testing.T) {
	for _, base := range validLists() {
		for first := range 255 {
			l := base
			for _, again := range []int{first + 1, (first + 256) / 2, 255} {
				l[again] = l[first]
				wantPut(t, l, l[first], moved(l, first), first)
			}
		}
	}
	for c := range 256 {
		l := listOf(func(int) int { return c })
		wantPut(t, l, byte(c), l, 0)
	}
}

func TestPutOfAByteThatDoesNotOccur(t *testing.T) {
	for _, base := range validLists() {
		for place, c := range base {
			l := base
			l[place] = base[255-place]
			wantPut(t, l, c, l, -1)
		}
	}
	for c := range 256 {
		l := listOf(func(i int) int { return c + 1 + i%255 })
		wantPut(t, l, byte(c), l, -1)
	}
}

func TestPutFollowsTheDefinition(t *testing.T) {
	for _, l := range allLists() {
		for c := range 256 {
			if place := positionOf(l, byte(c)); place < 0 {
				wantPut(t, l, byte(c), l, -1)
			} else {
				wantPut(t, l, byte(c), moved(l, place), place)
			}
		}
	}
}

func TestTakeAtOrdinaryPlaces(t *testing.T) {
	wantTake(t, inOrder(), 2, starting(2), 2)
	wantTake(t, starting(2), 0, starting(2), 2)
	wantTake(t, starting(2), 1, starting(0, 2), 0)
	wantTake(t, starting(0, 2), 2, starting(1, 0, 2), 1)
	wantTake(t, inOrder(), 128, starting(128), 128)
	wantTake(t, starting(7, 9, 200), 101, starting(100, 7, 9, 200), 100)
}

func TestTakeAtTheEnds(t *testing.T) {
	wantTake(t, inOrder(), 0, inOrder(), 0)
	wantTake(t, inOrder(), 1, starting(1), 1)
	wantTake(t, inOrder(), 254, starting(254), 254)
	wantTake(t, inOrder(), 255, starting(255), 255)
	wantTake(t, starting(255), 255, starting(254, 255), 254)
	wantNoTake(t, inOrder(), -1)
	wantNoTake(t, inOrder(), 256)
}

func TestTakeAtEachPlace(t *testing.T) {
	for _, l := range allLists() {
		for place, c := range l {
			wantTake(t, l, place, moved(l, place), c)
		}
	}
}

// It is the byte at the index that is moved; the earlier one is shifted as the others are.
func TestTakeOfAByteThatOccursEarlier(t *testing.T) {
	for _, base := range validLists() {
		for place := 1; place < 256; place++ {
			for _, earlier := range []int{0, place / 2, place - 1} {
				l := base
				l[earlier] = l[place]
				wantTake(t, l, place, moved(l, place), l[place])
			}
		}
	}
}

func TestTakeAtNoPlace(t *testing.T) {
	for _, l := range allLists() {
		for _, place := range notPlaces {
			wantNoTake(t, l, place)
		}
		for past := range 300 {
			wantNoTake(t, l, -1-past)
			wantNoTake(t, l, 256+past)
		}
	}
}

// wantShift asks that o is l with the element at an index in front, looked at element by element.
func wantShift(t *testing.T, l, o api.List, place int) {
	t.Helper()
	if o[0] != l[place] {
		t.Errorf("%d from %d of %x: %d is at the front", l[place], place, l, o[0])
	}
	for i := 1; i <= place; i++ {
		if o[i] != l[i-1] {
			t.Errorf("%d from %d of %x: %d at %d, want %d", l[place], place, l, o[i], i, l[i-1])
		}
	}
	for i := place + 1; i < 256; i++ {
		if o[i] != l[i] {
			t.Errorf("%d from %d of %x: %d at %d, want %d still", l[place], place, l, o[i], i, l[i])
		}
	}
}

func TestOnlyTheElementsBeforeAreShifted(t *testing.T) {
	for _, l := range allLists() {
		for place, c := range l {
			o, _, _ := mtf.Take(l, place)
			wantShift(t, l, o, place)
			first := positionOf(l, c)
			o, _ = mtf.Put(l, c)
			wantShift(t, l, o, first)
		}
	}
}

// P13.3

func TestTextsOfTheExamples(t *testing.T) {
	wantBoth(t, []byte{2, 2, 0, 1}, []byte{2, 0, 1, 2})
	wantBoth(t, []byte{255, 255, 254}, []byte{255, 0, 255})
	wantBoth(t, []byte("bnnaaa"), []byte{98, 110, 0, 99, 0, 0})
	wantBoth(t, []byte("banana"), []byte{98, 98, 110, 1, 1, 1})
	wantBoth(t, []byte{0, 1, 2, 0, 1, 2}, []byte{0, 1, 2, 2, 2, 2})
	wantBoth(t, []byte{0, 255, 0, 255, 1, 0}, []byte{0, 255, 1, 1, 2, 2})
	wantBoth(t, []byte{5, 3, 4, 3, 5, 5, 6}, []byte{5, 4, 5, 1, 2, 0, 6})
}

func TestTextWithoutBytes(t *testing.T) {
	wantBoth(t, nil, nil)
	wantBoth(t, []byte{}, []byte{})
	wantBoth(t, make([]byte, 3)[:0], nil)
	if places, text := mtf.Forth(), mtf.Back(); len(places) > 0 || len(text) > 0 {
		t.Error(places, text)
	}
}

func TestTextsOfOneByte(t *testing.T) {
	for c := range 256 {
		wantBoth(t, []byte{byte(c)}, []byte{byte(c)})
	}
}

func TestTextsOfTwoBytes(t *testing.T) {
	for first := range 256 {
		for second := range 256 {
			place := second
			if second == first {
				place = 0
			} else if second < first {
				place++
			}
			wantBoth(t, []byte{byte(first), byte(second)}, []byte{byte(first), byte(place)})
		}
	}
}

func TestTextsOfTheSameByte(t *testing.T) {
	for _, many := range []int{2, 3, 255, 256, 257, 1000, 70000} {
		for _, c := range []byte{0, 1, 2, 127, 128, 254, 255} {
			places := make([]byte, many)
			places[0] = c
			wantBoth(t, bytes.Repeat([]byte{c}, many), places)
		}
	}
}

func TestTextsOfAllBytes(t *testing.T) {
	order, reverse := inOrder(), listOf(func(i int) int { return 255 - i })
	last := bytes.Repeat([]byte{255}, 256)
	wantBoth(t, order[:], order[:])
	wantBoth(t, reverse[:], last)
	wantBoth(t, slices.Concat(order[:], order[:]), slices.Concat(order[:], last))
	wantBoth(t, slices.Concat(order[:], reverse[:]), slices.Concat(order[:], order[:]))
	wantBoth(t, slices.Concat(reverse[:], reverse[:]), slices.Concat(last, last))
	wantBoth(t, slices.Concat(reverse[:], order[:]), slices.Concat(last, order[:]))
}

func TestTextsFollowTheDefinition(t *testing.T) {
	for _, text := range texts() {
		wantForth(t, text, placesOf(text))
		wantBack(t, text, textOf(text))
	}
}

func TestAllShortTexts(t *testing.T) {
	for _, text := range shortTexts() {
		wantForth(t, text, placesOf(text))
		wantBack(t, text, textOf(text))
	}
}

func TestForthIsPutOneByOne(t *testing.T) {
	for _, text := range texts() {
		l := mtf.New()
		var places []byte
		for _, c := range text {
			var place int
			l, place = mtf.Put(l, c)
			places = append(places, byte(place))
		}
		wantForth(t, text, places)
	}
}

func TestBackIsTakeOneByOne(t *testing.T) {
	for _, places := range texts() {
		l := mtf.New()
		var text []byte
		for _, place := range places {
			var c byte
			l, c, _ = mtf.Take(l, int(place))
			text = append(text, c)
		}
		wantBack(t, places, text)
	}
}

func TestTextOfManyBytes(t *testing.T) {
	d := dice(8)
	text := slices.Concat(d.text(70000, 0, 256), d.text(70000, 250, 12))
	wantForth(t, text, placesOf(text))
	wantBack(t, text, textOf(text))
}

// P13.4

func TestBackInvertsForth(t *testing.T) {
	for _, text := range append(texts(), shortTexts()...) {
		wantBack(t, mtf.Forth(text...), text)
	}
}

func TestForthInvertsBack(t *testing.T) {
	for _, places := range append(texts(), shortTexts()...) {
		wantForth(t, mtf.Back(places...), places)
	}
}

func TestTakeInvertsWhatPutFinds(t *testing.T) {
	for _, l := range validLists() {
		for c := range 256 {
			o, place := mtf.Put(l, byte(c))
			wantTake(t, l, place, o, byte(c))
		}
	}
}

func TestAValidListStaysValid(t *testing.T) {
	for _, l := range validLists() {
		for i := range 256 {
			put, _ := mtf.Put(l, byte(i))
			wantValid(t, put, true)
			taken, _, _ := mtf.Take(l, i)
			wantValid(t, taken, true)
		}
		for _, place := range notPlaces {
			o, _, _ := mtf.Take(l, place)
			wantValid(t, o, true)
		}
	}
}

func TestAValidListStaysValidForLong(t *testing.T) {
	d := dice(9)
	for _, l := range validLists() {
		for range 1000 {
			l, _ = mtf.Put(l, byte(d.roll(256)))
			wantValid(t, l, true)
			l, _, _ = mtf.Take(l, d.roll(300)-20)
			wantValid(t, l, true)
		}
	}
}

// Neither becomes a list valid that is not.
func TestAnotherListStaysNotValid(t *testing.T) {
	for _, l := range otherLists() {
		for i := range 256 {
			put, _ := mtf.Put(l, byte(i))
			wantValid(t, put, false)
			taken, _, _ := mtf.Take(l, i)
			wantValid(t, taken, false)
		}
	}
}

// Only such a byte, and a first one 0, has position 0.
func TestAByteThatEqualsThePreviousOneHasPosition0(t *testing.T) {
	for _, text := range append(texts(), shortTexts()...) {
		previous := byte(0)
		for i, place := range mtf.Forth(text...) {
			if (place == 0) != (text[i] == previous) {
				t.Errorf("Forth(%s): %d at %d", brief(text), place, i)
			}
			previous = text[i]
		}
	}
	for _, l := range validLists() {
		for c := range 256 {
			o, _ := mtf.Put(l, byte(c))
			wantPut(t, o, byte(c), o, 0)
			wantTake(t, o, 0, o, byte(c))
		}
	}
}

// Memory

// Neither what arguments hold is changed nor what their memory has behind it.
func TestArgumentsStayAsTheyWere(t *testing.T) {
	d := dice(10)
	for _, many := range []int{1, 3, 256} {
		held := d.text(600, 0, many)
		before := slices.Clone(held)
		for _, length := range []int{0, 1, 2, 7, 8, 300, 599, 600} {
			mtf.Forth(held[:length]...)
			mtf.Back(held[:length]...)
		}
		if !bytes.Equal(held, before) {
			t.Errorf("%s is now %s", brief(before), brief(held))
		}
	}
	for _, l := range allLists() {
		before := l
		for i := range 256 {
			mtf.Put(l, byte(i))
			mtf.Take(l, i)
		}
		mtf.Take(l, -1)
		mtf.Valid(l)
		if l != before {
			t.Errorf("%x is now %x", before, l)
		}
	}
}

func TestTextsEndAtTheLengthNotTheCapacity(t *testing.T) {
	text := []byte{2, 2, 0, 1}
	for length := range text {
		wantForth(t, text[:length], []byte{2, 0, 1, 2}[:length])
		wantBack(t, text[:length], []byte{2, 1, 1, 2}[:length])
	}
}

// wantNewMemory asks that a result shares no memory with its argument, nor with another result.
func wantNewMemory(t *testing.T, convert func(...byte) []byte, text []byte) {
	t.Helper()
	held := slices.Clone(text)
	first, second := convert(held...), convert(held...)
	want := slices.Clone(second)
	for i := range first[:cap(first)] {
		first[:cap(first)][i] ^= 85
	}
	_ = append(first, 7)
	if !bytes.Equal(held, text) {
		t.Errorf("%s: the result is the argument's memory", brief(text))
	}
	clear(held)
	if !bytes.Equal(second, want) {
		t.Errorf("%s: the results share memory: %s, want %s", brief(text), brief(second), brief(want))
	}
	if again := convert(text...); !bytes.Equal(again, want) {
		t.Errorf("%s: then %s, want %s", brief(text), brief(again), brief(want))
	}
}

func TestResultsAreNewMemory(t *testing.T) {
	for _, text := range texts() {
		wantNewMemory(t, mtf.Forth, text)
		wantNewMemory(t, mtf.Back, text)
	}
}

// Calls do not depend on earlier ones: each text starts with the initial list.
func TestCallsAreRepeatable(t *testing.T) {
	for range 3 {
		wantBoth(t, []byte{2, 2, 0, 1}, []byte{2, 0, 1, 2})
		wantBoth(t, []byte{255, 7}, []byte{255, 8})
		wantPut(t, inOrder(), 2, starting(2), 2)
		wantTake(t, inOrder(), 255, starting(255), 255)
		wantNoTake(t, starting(9), 256)
		wantValid(t, api.List{}, false)
		wantValid(t, inOrder(), true)
	}
}
