package hose_test

import (
	"math"
	"testing"
)

// P15.1: from each index on, each number, of each number, at each place: n of the bytes from there on, or as many as there are.
func TestPeekFromEachIndex(t *testing.T) {
	for room := 1; room <= 7; room++ {
		for place := range room + 1 {
			for had := range room + 1 {
				h := filled(t, room, place, letters(had))
				for at := range room + 4 {
					for n := range room + 4 {
						begin := min(at, had)
						peek(t, h, at, n, letters(had)[begin:min(begin+n, had)])
					}
				}
				expect(t, h, letters(had), room-had, place+had, place)
				read(t, h, room, letters(had))
			}
		}
	}
}

// P15.1: none if at or n is negative, or n is 0, whatever the other is.
func TestPeekOfNone(t *testing.T) {
	for had := range 5 {
		h := filled(t, 4, 2, letters(had))
		for _, below := range []int{-1, -2, -4, -5, -1 << 20, -1 << 32, math.MinInt + 1, math.MinInt} {
			for _, other := range append(extremes(), 0, 1, 2, 3, 4, 5, -below) {
				peek(t, h, below, other, "")
				peek(t, h, other, below, "")
			}
		}
		for _, at := range append(extremes(), 0, 1, 2, 3, 4, 5) {
			peek(t, h, at, 0, "")
		}
	}
}

// P15.1: at, within and behind the last byte.
func TestPeekAtTheLastByte(t *testing.T) {
	for place := range 6 {
		h := filled(t, 5, place, "abcd")
		for _, n := range []int{1, 2, 3, 1 << 20, 1 << 32, math.MaxInt - 3, math.MaxInt - 2, math.MaxInt - 1, math.MaxInt} {
			peek(t, h, 3, n, "d")
			peek(t, h, 2, n, "cd"[:min(n, 2)])
			peek(t, h, 4, n, "")
			peek(t, h, 5, n, "")
			peek(t, h, 6, n, "")
			peek(t, h, 0, n, "abcd"[:min(n, 4)])
		}
	}
}

// P15.1: great numbers for one of the two and for both: their sum is no int.
func TestPeekWithGreatNumbers(t *testing.T) {
	for had := range 4 {
		h := filled(t, 3, 1, letters(had))
		for _, n := range extremes() {
			want := ""
			if n > 0 {
				want = letters(had)
			}
			peek(t, h, 0, n, want)
			for _, at := range extremes() {
				peek(t, h, at, n, "")
			}
			peek(t, h, n, 1, "")
		}
		peek(t, h, 1, math.MaxInt, letters(had)[min(1, had):])
		peek(t, h, math.MaxInt, math.MaxInt, "")
	}
}

// P15.1: nothing is removed, however often one looks.
func TestPeekRemovesNothing(t *testing.T) {
	h := filled(t, 8, 5, "abcdef")
	for range 100 {
		peek(t, h, 0, 3, "abc")
		peek(t, h, 2, 9, "cdef")
	}
	expect(t, h, "abcdef", 2, 11, 5)
	write(t, h, "ghi", 2)
	read(t, h, 9, "abcdefgh")
}

// P15.1: the index counts from the first byte that is there, after each kind of call.
func TestPeekCountsFromTheFirstByte(t *testing.T) {
	h := start(t, 5)
	peek(t, h, 0, 1, "")
	write(t, h, "abcde", 5)
	peek(t, h, 1, 2, "bc")
	read(t, h, 1, "a")
	peek(t, h, 1, 2, "cd")
	drop(t, h, 1, 1)
	peek(t, h, 1, 2, "de")
	write(t, h, "fg", 2)
	peek(t, h, 1, 2, "de")
	peek(t, h, 3, 2, "fg")
	drop(t, h, 3, 3)
	peek(t, h, 0, 2, "fg")
	peek(t, h, 1, 2, "g")
	peek(t, h, 2, 2, "")
}
