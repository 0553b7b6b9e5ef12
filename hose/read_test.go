package hose_test

import (
	"math"
	"testing"

	"towrope/hose"
)

// P15.1: none of a hose that is empty, whatever is asked for, and wherever in the ring it is.
func TestReadAndDropOfAnEmptyHose(t *testing.T) {
	for place := range 5 {
		h := filled(t, 4, place, "")
		for _, n := range append(extremes(), 0, 1, 2, 3, 4, 5) {
			read(t, h, n, "")
			drop(t, h, n, 0)
		}
		expect(t, h, "", 4, place, place)
	}
}

// P15.1: none if n is less than 1, also of a hose that is full.
func TestReadAndDropOfNone(t *testing.T) {
	for had := range 5 {
		h := filled(t, 4, 3, letters(had))
		for _, n := range []int{0, -1, -2, -4, -5, -1 << 20, -1 << 32, math.MinInt + 1, math.MinInt} {
			read(t, h, n, "")
			drop(t, h, n, 0)
		}
		expect(t, h, letters(had), 4-had, 3+had, 3)
	}
}

// P15.1: each number, of each number, at each place: the first n, or all if there are fewer. The bytes dropped are those that Read would have removed.
func TestReadAndDropTakeTheFirst(t *testing.T) {
	for room := 1; room <= 9; room++ {
		for place := range 2*room + 1 {
			for had := range room + 1 {
				for n := range room + 4 {
					want := letters(had)[:min(n, had)]
					a, b := filled(t, room, place, letters(had)), filled(t, room, place, letters(had))
					read(t, a, n, want)
					drop(t, b, n, len(want))
					for _, h := range []*hose.Hose{a, b} {
						expect(t, h, letters(had)[len(want):], room-had+len(want), place+had, place+len(want))
					}
				}
			}
		}
	}
}

// P15.1: numbers that are far greater than what there is.
func TestReadAndDropOfMoreThanThereAre(t *testing.T) {
	for place := range 6 {
		for had := range 6 {
			for _, n := range []int{6, 255, 256, 1 << 20, 1<<20 + 1, 1 << 32, 1<<32 + 1, math.MaxInt - 1, math.MaxInt} {
				h := filled(t, 5, place, letters(had))
				read(t, h, n, letters(had))
				expect(t, h, "", 5, place+had, place+had)
				h = filled(t, 5, place, letters(had))
				drop(t, h, n, had)
				expect(t, h, "", 5, place+had, place+had)
			}
		}
	}
}

// P15.1: one behind the other, and in turns.
func TestReadsAndDropsInTurns(t *testing.T) {
	for place := range 11 {
		h := filled(t, 10, place, "abcdefghij")
		read(t, h, 1, "a")
		drop(t, h, 1, 1)
		read(t, h, 2, "cd")
		drop(t, h, 2, 2)
		write(t, h, "klmnopq", 6)
		read(t, h, 3, "ghi")
		drop(t, h, 3, 3)
		write(t, h, "rs", 2)
		read(t, h, 5, "mnopr")
		drop(t, h, 5, 1)
		read(t, h, 1, "")
		expect(t, h, "", 10, place+18, place+18)
	}
}

// P15.1: byte by byte, as all at once.
func TestReadByteByByte(t *testing.T) {
	for place := range 8 {
		h := filled(t, 7, place, letters(7))
		for _, c := range letters(7) {
			read(t, h, 1, string(c))
		}
		read(t, h, 1, "")
		h = filled(t, 7, place, letters(7))
		for i := range 7 {
			drop(t, h, 1, 1)
			peek(t, h, 0, 9, letters(7)[i+1:])
		}
		drop(t, h, 1, 0)
	}
}
