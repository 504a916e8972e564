package crc_test

import (
	"bytes"
	"hash/crc32"
	"math"
	"slices"
	"testing"

	"winepress/crc"
)

// sums holds checksums and registers: all zeros, all ones, single bits at the ends, and mixed ones.
var sums = []uint32{0, 1, 2, 255, 256, 0xff00, 0xffffff, 0x1000000, 1 << 31, 1<<31 - 1, 0xfffffffe, math.MaxUint32, 0x01020304, 0xa1b2c3d4, 0xcbf43926, 0xedb88320}

// dice gives numbers that look thrown, the same ones in every run.
type dice uint64

func (d *dice) roll(sides int) int {
	*d = *d*6364136223846793005 + 1442695040888963407
	return int(uint64(*d) >> 33 % uint64(sides))
}

func (d *dice) word() uint32 {
	return uint32(d.roll(1<<16)<<16 | d.roll(1<<16))
}

func (d *dice) bytes(n int) []byte {
	b := make([]byte, n)
	for i := range b {
		b[i] = byte(d.roll(256))
	}
	return b
}

// texts returns strings of every length up to most: zeros, ones, counted and thrown bytes.
func texts(most int) [][]byte {
	d := dice(1)
	var all [][]byte
	for n := range most + 1 {
		counted := make([]byte, n)
		for i := range counted {
			counted[i] = byte(i)
		}
		all = append(all, make([]byte, n), bytes.Repeat([]byte{255}, n), counted, d.bytes(n))
	}
	return all
}

// defined returns the table's entry for a byte, bit by bit, by the chapter's definition.
func defined(b int) uint32 {
	v := uint32(b)
	for range 8 {
		if v%2 == 1 {
			v = v/2 ^ 0xedb88320
		} else {
			v /= 2
		}
	}
	return v
}

// cut divides a byte string after those bytes whose bit is set in the pattern.
func cut(b []byte, pattern int) [][]byte {
	var parts [][]byte
	start := 0
	for i := range b {
		if pattern>>i&1 == 1 {
			parts = append(parts, b[start:i+1])
			start = i + 1
		}
	}
	return append(parts, b[start:])
}

func wantOf(t *testing.T, want uint32, parts ...[]byte) {
	t.Helper()
	if c := crc.Of(parts...); c != want {
		t.Errorf("Of(%x): %x, want %x", parts, c, want)
	}
}

func wantFeed(t *testing.T, want, c uint32, parts ...[]byte) {
	t.Helper()
	if got := crc.Feed(c, parts...); got != want {
		t.Errorf("Feed(%x, %x): %x, want %x", c, parts, got, want)
	}
}

// P4.1: Table

func TestTableFollowsTheDefinition(t *testing.T) {
	table := crc.Table()
	for b, got := range table {
		if want := defined(b); got != want || got != crc32.IEEETable[b] {
			t.Errorf("entry %d: %x, want %x", b, got, want)
		}
	}
}

func TestTableOfTheExamples(t *testing.T) {
	table := crc.Table()
	for b, want := range map[int]uint32{0: 0, 1: 0x77073096, 128: 0xedb88320, 255: 0x2d02ef8d} {
		if table[b] != want {
			t.Errorf("entry %d: %x, want %x", b, table[b], want)
		}
	}
}

func TestTableReturnsNewMemory(t *testing.T) {
	first, second := crc.Table(), crc.Table()
	clear(first[:])
	if second[1] != 0x77073096 || crc.Table() != second {
		t.Error("a table that was cleared shows in another one")
	}
	wantOf(t, 0xcbf43926, []byte("123456789"))
	if c := crc.Step(0, 1); c != 0x77073096 {
		t.Errorf("Step after a table was cleared: %x", c)
	}
}

// P4.1: Step

func TestStepFollowsTheDefinition(t *testing.T) {
	d := dice(2)
	registers := slices.Clone(sums)
	for range 100 {
		registers = append(registers, d.word())
	}
	for _, c := range registers {
		for b := range 256 {
			want := defined(int(c%256)^b) ^ c/256
			if got := crc.Step(c, byte(b)); got != want {
				t.Errorf("Step(%x, %x): %x, want %x", c, b, got, want)
			}
		}
	}
}

func TestStepOfEveryLowByte(t *testing.T) {
	for low := range 256 {
		for b := range 256 {
			c := 0x89abcd00 | uint32(low)
			want := crc32.IEEETable[low^b] ^ 0x89abcd
			if got := crc.Step(c, byte(b)); got != want {
				t.Errorf("Step(%x, %x): %x, want %x", c, b, got, want)
			}
		}
	}
}

func TestStepFromZeroGivesTheTable(t *testing.T) {
	for b, want := range crc.Table() {
		if got := crc.Step(0, byte(b)); got != want {
			t.Errorf("Step(0, %x): %x, want %x", b, got, want)
		}
	}
}

// P4.1: Of

func TestOfTheExamples(t *testing.T) {
	for s, want := range map[string]uint32{
		"":                 0,
		"123456789":        0xcbf43926,
		"a":                0xe8b7be43,
		"\x00":             0xd202ef8d,
		"\xff":             0xff000000,
		"\x00\x00\x00\x00": 0x2144df1c,
	} {
		wantOf(t, want, []byte(s))
	}
}

func TestOfNothing(t *testing.T) {
	wantOf(t, 0)
	wantOf(t, 0, nil)
	wantOf(t, 0, []byte{})
	wantOf(t, 0, nil, []byte{}, make([]byte, 4)[:0], nil)
	wantOf(t, 0, [][]byte{}...)
	var none [][]byte
	wantOf(t, 0, none...)
}

func TestOfFollowsTheLibrary(t *testing.T) {
	for _, s := range texts(300) {
		wantOf(t, crc32.ChecksumIEEE(s), s)
	}
	for b := range 256 {
		wantOf(t, crc32.ChecksumIEEE([]byte{byte(b)}), []byte{byte(b)})
	}
}

func TestOfIsMadeOfSteps(t *testing.T) {
	for _, s := range texts(40) {
		register := uint32(math.MaxUint32)
		for _, b := range s {
			register = crc.Step(register, b)
		}
		wantOf(t, ^register, s)
	}
}

func TestOfALongInput(t *testing.T) {
	d := dice(3)
	s := d.bytes(1 << 20)
	want := crc32.ChecksumIEEE(s)
	if c := crc.Of(s); c != want {
		t.Errorf("in one part: %x, want %x", c, want)
	}
	oneByOne := make([][]byte, len(s))
	for i := range s {
		oneByOne[i] = s[i : i+1]
	}
	if c := crc.Of(oneByOne...); c != want {
		t.Errorf("in parts of one byte: %x, want %x", c, want)
	}
}

func TestOfAmongEmptyParts(t *testing.T) {
	wantOf(t, 0xcbf43926, nil, []byte("123"), []byte{}, nil, []byte("456789"), []byte{})
	wantOf(t, 0xcbf43926, []byte{}, []byte("123456789"), nil)
}

func TestOfTheSamePartTwice(t *testing.T) {
	s := []byte("abc")
	wantOf(t, crc32.ChecksumIEEE([]byte("abcabcabc")), s, s, s)
}

func TestOfStopsAtTheLengthNotTheCapacity(t *testing.T) {
	s := []byte("123456789 and more")
	wantOf(t, 0xcbf43926, s[:9])
	wantOf(t, 0xcbf43926, s[:4], s[4:9])
	wantFeed(t, 0xcbf43926, 0, s[:9])
}

func TestPartsAreNotChanged(t *testing.T) {
	whole := []byte("123456789 and more")
	parts := [][]byte{whole[:2], whole[2:2], nil, whole[2:9], whole[9:], whole}[:4]
	want := slices.Clone(whole)
	for range 2 {
		wantOf(t, 0xcbf43926, parts...)
		wantFeed(t, 0xcbf43926, 0, parts...)
	}
	if !bytes.Equal(whole, want) {
		t.Errorf("the memory of the parts is now %q", whole)
	}
	behind := parts[:6]
	if len(parts[0]) != 2 || parts[2] != nil || len(parts[3]) != 7 || len(behind[4]) != 9 || len(behind[5]) != 18 {
		t.Errorf("the list of the parts is now %q", behind)
	}
}

func TestPartsAreNotKept(t *testing.T) {
	s := []byte("123456789")
	wantOf(t, 0xcbf43926, s)
	copy(s, "abc")
	wantOf(t, crc32.ChecksumIEEE([]byte("abc456789")), s)
	wantOf(t, 0xcbf43926, []byte("123456789"))
	wantOf(t, 0)
}

// P4.1: Feed

func TestFeedOfNothing(t *testing.T) {
	for _, c := range append([]uint32{7}, sums...) {
		wantFeed(t, c, c)
		wantFeed(t, c, c, nil)
		wantFeed(t, c, c, []byte{}, nil, make([]byte, 4)[:0])
	}
}

func TestFeedFollowsTheLibrary(t *testing.T) {
	for _, s := range texts(40) {
		for _, c := range sums {
			wantFeed(t, crc32.Update(c, crc32.IEEETable, s), c, s)
		}
	}
}

func TestFeedFromTheEmptyStringIsOf(t *testing.T) {
	for _, s := range texts(40) {
		wantFeed(t, crc.Of(s), 0, s)
		wantFeed(t, crc.Of(s), crc.Of(), s)
	}
}

func TestFeedGoesOnAtEverySplit(t *testing.T) {
	for _, s := range texts(40) {
		want := crc32.ChecksumIEEE(s)
		for at := range len(s) + 1 {
			wantFeed(t, want, crc.Of(s[:at]), s[at:])
			wantFeed(t, want, crc.Feed(0, s[:at]), nil, s[at:], nil)
		}
	}
}

func TestFeedAfterAChecksumOfAllZerosOrAllOnes(t *testing.T) {
	for s, c := range map[string]uint32{"": 0, "\x9d\x0a\xd9\x6d": 0, "\xff\xff\xff\xff": math.MaxUint32} {
		wantOf(t, c, []byte(s))
		for _, rest := range texts(20) {
			want := crc32.ChecksumIEEE(append([]byte(s), rest...))
			wantFeed(t, want, c, rest)
			wantOf(t, want, []byte(s), rest)
		}
	}
}

func TestFeedByteByByte(t *testing.T) {
	d := dice(4)
	s := d.bytes(2000)
	c := crc.Of()
	for i := range s {
		c = crc.Feed(c, s[i:i+1])
		if want := crc32.ChecksumIEEE(s[:i+1]); c != want {
			t.Fatalf("after %d bytes: %x, want %x", i+1, c, want)
		}
	}
}

// P4.2

func TestPut(t *testing.T) {
	for c, want := range map[uint32]string{
		0:              "\x00\x00\x00\x00",
		1:              "\x00\x00\x00\x01",
		258:            "\x00\x00\x01\x02",
		1 << 31:        "\x80\x00\x00\x00",
		0xa1b2c3d4:     "\xa1\xb2\xc3\xd4",
		math.MaxUint32: "\xff\xff\xff\xff",
	} {
		if b := crc.Put(c); string(b) != want {
			t.Errorf("Put(%x): %x, want %x", c, b, want)
		}
	}
}

func TestPutOfEveryBit(t *testing.T) {
	for bit := range 32 {
		want := make([]byte, 4)
		want[3-bit/8] = 1 << (bit % 8)
		if b := crc.Put(1 << bit); !bytes.Equal(b, want) {
			t.Errorf("Put of bit %d: %x, want %x", bit, b, want)
		}
	}
}

func TestPutReturnsNewMemory(t *testing.T) {
	first, second := crc.Put(0xa1b2c3d4), crc.Put(0xa1b2c3d4)
	clear(first[:cap(first)])
	_ = append(first, 99)
	if string(second) != "\xa1\xb2\xc3\xd4" || string(crc.Put(0xa1b2c3d4)) != "\xa1\xb2\xc3\xd4" {
		t.Errorf("the results share memory: %x", second)
	}
}

func wantTake(t *testing.T, b []byte, want uint32, ok bool) {
	t.Helper()
	if c, got := crc.Take(b); c != want || got != ok {
		t.Errorf("Take(%x): %x, %v, want %x, %v", b, c, got, want, ok)
	}
}

func TestTake(t *testing.T) {
	wantTake(t, []byte{0xa1, 0xb2, 0xc3, 0xd4}, 0xa1b2c3d4, true)
	wantTake(t, []byte("\x00\x00\x01\x02xyz"), 258, true)
	wantTake(t, []byte{0, 0, 0, 0}, 0, true)
	wantTake(t, []byte{255, 255, 255, 255}, math.MaxUint32, true)
	wantTake(t, []byte{0, 0, 0, 0, 255}, 0, true)
}

func TestTakeOfEveryLength(t *testing.T) {
	d := dice(5)
	for _, whole := range [][]byte{d.bytes(300), bytes.Repeat([]byte{255}, 300), make([]byte, 300)} {
		sum := uint32(whole[0])<<24 + uint32(whole[1])<<16 + uint32(whole[2])<<8 + uint32(whole[3])
		for n := range len(whole) + 1 {
			if n < 4 {
				wantTake(t, whole[:n], 0, false)
				wantTake(t, slices.Clip(whole[:n]), 0, false)
				continue
			}
			wantTake(t, whole[:n], sum, true)
		}
	}
	wantTake(t, nil, 0, false)
	wantTake(t, []byte{}, 0, false)
}

func TestTakeOfEveryBit(t *testing.T) {
	for bit := range 32 {
		b := make([]byte, 4)
		b[3-bit/8] = 1 << (bit % 8)
		wantTake(t, b, 1<<bit, true)
	}
}

func TestTakeOfWhatPutWrote(t *testing.T) {
	d := dice(6)
	for range 1000 {
		c := d.word()
		wantTake(t, crc.Put(c), c, true)
		wantTake(t, append(crc.Put(c), 1, 2, 3), c, true)
	}
	for _, c := range sums {
		wantTake(t, crc.Put(c), c, true)
		wantTake(t, crc.Put(c)[:3], 0, false)
	}
}

func TestTakeDoesNotChangeItsArgument(t *testing.T) {
	whole := []byte{1, 2, 3, 4, 5, 6, 7}
	for n := range len(whole) + 1 {
		crc.Take(whole[:n])
	}
	if !bytes.Equal(whole, []byte{1, 2, 3, 4, 5, 6, 7}) {
		t.Errorf("the argument is now %x", whole)
	}
}

// P4.3

func TestEveryDivisionIntoPartsGivesTheSameChecksum(t *testing.T) {
	d := dice(7)
	for _, s := range [][]byte{[]byte("123456789"), d.bytes(10), make([]byte, 10), bytes.Repeat([]byte{255}, 10), {1}, {}} {
		want := crc32.ChecksumIEEE(s)
		for pattern := range 1 << len(s) {
			parts := cut(s, pattern)
			wantOf(t, want, parts...)
			c := crc.Of()
			for i, part := range parts {
				c = crc.Feed(c, part)
				wantFeed(t, want, c, parts[i+1:]...)
			}
			if c != want {
				t.Errorf("fed one by one, %x: %x, want %x", parts, c, want)
			}
		}
	}
}

func TestDivisionsOfLongInputs(t *testing.T) {
	d := dice(8)
	for range 100 {
		s := d.bytes(d.roll(3000))
		want := crc32.ChecksumIEEE(s)
		var parts [][]byte
		for rest := s; len(rest) > 0; {
			n := min(d.roll(1+d.roll(700)), len(rest))
			parts = append(parts, rest[:n])
			rest = rest[n:]
		}
		first := d.roll(len(parts) + 1)
		if c := crc.Of(parts...); c != want {
			t.Errorf("%d bytes in %d parts: %x, want %x", len(s), len(parts), c, want)
		}
		if c := crc.Feed(crc.Of(parts[:first]...), parts[first:]...); c != want {
			t.Errorf("%d bytes in %d parts, %d first: %x, want %x", len(s), len(parts), first, c, want)
		}
	}
}

// xor returns the exclusive or of strings of equal length.
func xor(s []byte, others ...[]byte) []byte {
	s = slices.Clone(s)
	for _, other := range others {
		for i, b := range other {
			s[i] ^= b
		}
	}
	return s
}

func TestTheChecksumIsAffine(t *testing.T) {
	d := dice(9)
	for n := range 70 {
		zeros, ones := make([]byte, n), bytes.Repeat([]byte{255}, n)
		for range 10 {
			a, b, c := d.bytes(n), d.bytes(n), d.bytes(n)
			for _, three := range [][3][]byte{{a, b, c}, {a, b, zeros}, {a, ones, c}, {zeros, ones, a}, {a, a, b}, {a, a, a}, {zeros, ones, zeros}} {
				x, y, z := three[0], three[1], three[2]
				wantOf(t, crc.Of(x)^crc.Of(y)^crc.Of(z), xor(x, y, z))
			}
		}
	}
}

// rank returns how many of the numbers are independent: it clears each bit from all numbers by one that has it, which it takes out. The numbers are changed.
func rank(numbers []uint32) int {
	many := 0
	for bit := range 32 {
		at := slices.IndexFunc(numbers, func(v uint32) bool { return v>>bit&1 == 1 })
		if at < 0 {
			continue
		}
		many++
		base := numbers[at]
		for i, v := range numbers {
			if v>>bit&1 == 1 {
				numbers[i] = v ^ base
			}
		}
	}
	return many
}

// As the checksum is affine, what a change does to it is the exclusive or of what the change's bits do; so if the effects of the 32 bits are independent, no change of the four bytes leaves it as it was.
func TestNoChangeOfFourBytesKeepsTheChecksum(t *testing.T) {
	d := dice(10)
	for n := 1; n <= 30; n++ {
		for _, s := range [][]byte{d.bytes(n), make([]byte, n), bytes.Repeat([]byte{255}, n)} {
			sum, wide := crc.Of(s), min(n, 4)
			for at := range n - wide + 1 {
				var effects []uint32
				for bit := range 8 * wide {
					change := make([]byte, n)
					change[at+bit/8] = 1 << (bit % 8)
					effects = append(effects, sum^crc.Of(xor(s, change)))
				}
				if r := rank(effects); r != 8*wide {
					t.Errorf("%x, %d bytes from %d on: rank %d", s, wide, at, r)
				}
			}
		}
	}
}

func TestAChangeOfOneByteChangesTheChecksum(t *testing.T) {
	for _, s := range texts(8) {
		sum := crc.Of(s)
		for at, was := range s {
			for by := range 256 {
				s[at] = byte(by)
				if same := crc.Of(s) == sum; same != (byte(by) == was) {
					t.Errorf("byte %d of %x set to %x: %v", at, s, by, same)
				}
			}
			s[at] = was
		}
	}
}

func TestAChangeThatCrossesBytesChangesTheChecksum(t *testing.T) {
	d := dice(11)
	changes := []uint32{0x00018000, 0x01800000, 0x00000180, 0x80000001, 0x01000080, 0x00ffff00, 0x0ff00ff0, 0xedb88320, 0x04c11db7, math.MaxUint32}
	for range 100 {
		changes = append(changes, 1+uint32(d.roll(1<<31-1)))
	}
	for n := 4; n <= 40; n++ {
		s := d.bytes(n)
		sum := crc.Of(s)
		for at := range n - 3 {
			for _, v := range changes {
				change := make([]byte, n)
				copy(change[at:], []byte{byte(v >> 24), byte(v >> 16), byte(v >> 8), byte(v)})
				if crc.Of(xor(s, change)) == sum {
					t.Errorf("%x changed at %d by %x: the same checksum", s, at, v)
				}
			}
		}
	}
}
