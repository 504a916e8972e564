// Package arena is layer 1: see shared/doc/01-arena.md.
package arena

import "winepress/api"

const wordSize = 4

// Arena is an arena allocator.
type Arena struct {
	bytes []byte // as many as the budget
	live  int
	peak  int
}

// New is specified in P1.1.
func New(budget int) (*Arena, api.Errno) {
	if budget < 1 || budget > api.MaxBudget {
		return nil, api.ErrArg
	}
	return &Arena{bytes: make([]byte, budget)}, api.OK
}

// Take is specified in P1.2.
func (a *Arena) Take(n int) (api.Span, api.Errno) {
	if a == nil || n < 0 {
		return api.Span{}, api.ErrArg
	}
	if n > a.Left() {
		return api.Span{}, api.ErrNoSpace
	}
	s := api.Span{At: a.live, Len: n}
	a.live += n
	a.peak = max(a.peak, a.live)
	// The bytes may have been live, and set, before a Release.
	clear(a.part(s))
	return s, api.OK
}

// Mark is specified in P1.1.
func (a *Arena) Mark() int {
	if a == nil {
		return 0
	}
	return a.live
}

// Release is specified in P1.2.
func (a *Arena) Release(mark int) bool {
	if a == nil || mark < 0 || mark > a.live {
		return false
	}
	a.live = mark
	return true
}

// Left is specified in P1.1.
func (a *Arena) Left() int {
	if a == nil {
		return 0
	}
	return len(a.bytes) - a.live
}

// Peak is specified in P1.1.
func (a *Arena) Peak() int {
	if a == nil {
		return 0
	}
	return a.peak
}

// Has is specified in P1.1.
func (a *Arena) Has(s api.Span) bool {
	// At + Len could overflow; the difference can't, as neither number is negative.
	return a != nil && s.At >= 0 && s.Len >= 0 && s.At <= a.live-s.Len
}

// Byte is specified in P1.3.
func (a *Arena) Byte(s api.Span, i int) (byte, bool) {
	if !a.holds(s, i, 1) {
		return 0, false
	}
	return a.bytes[s.At+i], true
}

// SetByte is specified in P1.3.
func (a *Arena) SetByte(s api.Span, i int, c byte) bool {
	if !a.holds(s, i, 1) {
		return false
	}
	a.bytes[s.At+i] = c
	return true
}

// Word is specified in P1.3.
func (a *Arena) Word(s api.Span, i int) (uint32, bool) {
	if !a.holds(s, i, wordSize) {
		return 0, false
	}
	b := a.part(wordSpan(s, i))
	return uint32(b[0]) | uint32(b[1])<<8 | uint32(b[2])<<16 | uint32(b[3])<<24, true
}

// SetWord is specified in P1.3.
func (a *Arena) SetWord(s api.Span, i int, v uint32) bool {
	if !a.holds(s, i, wordSize) {
		return false
	}
	b := a.part(wordSpan(s, i))
	b[0], b[1], b[2], b[3] = byte(v), byte(v>>8), byte(v>>16), byte(v>>24)
	return true
}

// Load is specified in P1.3.
func (a *Arena) Load(s api.Span) []byte {
	if !a.Has(s) {
		return nil
	}
	b := make([]byte, s.Len)
	copy(b, a.part(s))
	return b
}

// Store is specified in P1.3.
func (a *Arena) Store(s api.Span, at int, b ...byte) bool {
	if !a.Has(s) || at < 0 || at > s.Len || len(b) > s.Len-at {
		return false
	}
	copy(a.part(s)[at:], b)
	return true
}

// holds reports whether a span is live and contains the item with index i, all items being of one size.
func (a *Arena) holds(s api.Span, i, size int) bool {
	// The items are counted, as i * size could overflow.
	return a.Has(s) && i >= 0 && i < s.Len/size
}

// wordSpan returns the part of a span that is its word i.
func wordSpan(s api.Span, i int) api.Span {
	return api.Span{At: s.At + i*wordSize, Len: wordSize}
}

// part returns the memory of a live span. Its capacity ends where the span does, so that no slip in its use reaches another span.
func (a *Arena) part(s api.Span) []byte {
	end := s.At + s.Len
	return a.bytes[s.At:end:end]
}
