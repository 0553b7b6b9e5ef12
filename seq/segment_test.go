package seq_test

import (
	"math"
	"testing"

	"towrope/seq"
)

// P3.2: Accept.

// acceptable tells Accept as the chapter words it, with In told by distances without bounds.
func acceptable(s uint32, length int, next uint32, window int) bool {
	length, window = max(length, 0), max(window, 0)
	inside := func(s uint32) bool { return int(round(sum(int(s), -int(next)))) < window }
	switch {
	case length == 0 && window == 0:
		return s == next
	case length == 0:
		return inside(s)
	case window == 0:
		return false
	}
	return inside(s) || inside(round(sum(int(s), length-1)))
}

func TestAcceptAtEdges(t *testing.T) {
	for _, c := range []struct {
		s      uint32
		length int
		next   uint32
		window int
		want   bool
	}{
		{7, 0, 7, 0, true}, {8, 0, 7, 0, false}, {6, 0, 7, 0, false}, {7, -1, 7, -1, true}, {7, math.MinInt, 7, math.MinInt, true}, {8, -3, 7, -2, false},
		{7, 0, 7, 1, true}, {8, 0, 7, 1, false}, {8, 0, 7, 2, true}, {6, 0, 7, 2, false}, {7, -1, 7, 1, true}, {8, -5, 7, 1, false}, {8, math.MinInt, 7, 2, true},
		{7, 1, 7, 0, false}, {7, 1, 7, -1, false}, {7, math.MaxInt, 7, 0, false}, {6, 2, 7, math.MinInt, false},
		{7, 1, 7, 1, true}, {6, 1, 7, 1, false}, {6, 2, 7, 1, true}, {8, 1, 7, 1, false}, {8, 9, 7, 1, false},
		{5, 2, 7, 3, false}, {5, 3, 7, 3, true}, {5, 5, 7, 3, true}, {9, 1, 7, 3, true}, {9, 50, 7, 3, true}, {10, 1, 7, 3, false},
		// A segment that holds the whole window, and more at both ends.
		{5, 6, 7, 3, false}, {5, 100, 7, 3, false},
		{all - 1, 3, 1, 1, true}, {all - 1, 2, 1, 1, false}, {all - 3, 3, all - 1, 4, true}, {2, 1, all - 1, 4, true}, {3, 1, all - 1, 4, false},
		{0, 1, half, half, false}, {0, 1, half, half + 1, true}, {all - 1, 2, half, half, true}, {half, 1, 0, half, false}, {half - 1, 1, 0, half, true},
		{6, 1, 7, all - 1, false}, {6, 1, 7, all, true}, {6, 0, 7, all - 1, false}, {6, 0, 7, all, true}, {6, 2, 7, all - 1, true},
		{6, 0, 7, math.MaxInt, true}, {6, math.MaxInt, 7, math.MaxInt, true},
		// The last number of a segment is counted modulo 2^32.
		{6, all, 7, 5, false}, {6, all + 1, 7, 5, false}, {6, all + 2, 7, 5, true}, {6, math.MaxInt, 7, 5, false}, {9, math.MaxInt, 7, 1, true},
	} {
		if got := seq.Accept(c.s, c.length, c.next, c.window); got != c.want {
			t.Errorf("Accept(%d, %d, %d, %d) = %v", c.s, c.length, c.next, c.window, got)
		}
	}
}

func TestAcceptIsWhatTheChapterWords(t *testing.T) {
	for _, next := range numbers {
		for _, k := range []int{-half, -half + 1, -trim, -5, -2, -1, 0, 1, 2, 5, trim - 1, trim, half - 1} {
			s := round(sum(int(next), k))
			for _, length := range counts {
				for _, window := range counts {
					if got, want := seq.Accept(s, length, next, window), acceptable(s, length, next, window); got != want {
						t.Fatalf("Accept(%d, %d, %d, %d) = %v", s, length, next, window, got)
					}
				}
			}
		}
	}
}

// P3.3: Trim.

// part tells Trim by trying each number of the segment.
func part(s uint32, length int, next uint32, window int) (from, to int) {
	length, window = min(max(length, 0), trim), min(max(window, 0), trim)
	for k := range length {
		if ahead := int(int32(s + uint32(k) - next)); ahead >= 0 && ahead < window {
			if to == 0 {
				from = k
			}
			to = k + 1
		}
	}
	return from, to
}

func TestTrimTriesEachNumber(t *testing.T) {
	for _, next := range numbers {
		for k := -9; k < 9; k++ {
			s := round(sum(int(next), k))
			for length := -2; length < 12; length++ {
				for window := -2; window < 9; window++ {
					checkTrim(t, s, length, next, window)
				}
			}
		}
	}
}

func TestTrimOfGreatParts(t *testing.T) {
	sizes := []int{math.MinInt, -1, 0, 1, trim - 1, trim, trim + 1, math.MaxInt}
	for _, next := range []uint32{0, half, all - 1} {
		for _, k := range []int{-half, -trim - 1, -trim, -trim + 1, -1, 0, 1, trim - 1, trim, trim + 1, half - 1, half - trim} {
			s := round(sum(int(next), k))
			for _, length := range sizes {
				for _, window := range sizes {
					checkTrim(t, s, length, next, window)
				}
			}
		}
	}
}

// checkTrim also holds P3.4: a part that is wanted is acceptable, whatever the window was.
func checkTrim(t *testing.T, s uint32, length int, next uint32, window int) {
	t.Helper()
	from, to := seq.Trim(s, length, next, window)
	if f, o := part(s, length, next, window); from != f || to != o {
		t.Fatalf("Trim(%d, %d, %d, %d) = %d, %d, want %d, %d", s, length, next, window, from, to, f, o)
	}
	if from < to && !seq.Accept(seq.Add(s, from), to-from, next, window) {
		t.Fatalf("what is wanted by Trim(%d, %d, %d, %d) = %d, %d is not acceptable", s, length, next, window, from, to)
	}
}

func TestTrimAtEdges(t *testing.T) {
	for _, c := range []struct {
		s        uint32
		length   int
		next     uint32
		window   int
		from, to int
	}{
		{7, 3, 7, 3, 0, 3}, {7, 3, 7, 9, 0, 3}, {8, 3, 7, 9, 0, 3},
		{5, 4, 7, 9, 2, 4}, {7, 4, 7, 3, 0, 3}, {5, 9, 7, 3, 2, 5}, {9, 4, 7, 3, 0, 1},
		{5, 2, 7, 9, 0, 0}, {10, 2, 7, 3, 0, 0}, {7 + half, 5, 7, 5, 0, 0}, {6 + half, 5, 7, 5, 0, 0},
		{7, 0, 7, 3, 0, 0}, {7, -1, 7, 3, 0, 0}, {7, 3, 7, 0, 0, 0}, {7, 3, 7, -1, 0, 0}, {7, math.MinInt, 7, math.MinInt, 0, 0},
		{all - 2, 5, all - 2, 5, 0, 5}, {all - 2, 5, 0, 5, 2, 5}, {all - 2, 5, all - 1, 2, 1, 3}, {0, 5, all - 2, 5, 0, 3}, {1, 5, all - 2, 3, 0, 0},
		{half - 2, 5, half, 2, 2, 4}, {half, 5, half - 2, 5, 0, 3},
		{7, math.MaxInt, 7, math.MaxInt, 0, trim}, {7, trim + 1, 7, trim + 1, 0, trim}, {7, trim, 7, trim, 0, trim},
		// What lies behind the first 2^20 numbers of a segment or of the window is not wanted.
		{7, all, 7 + trim, 1, 0, 0}, {7, all, 6 + trim, 1, trim - 1, trim}, {7 + trim, 1, 7, all, 0, 0}, {6 + trim, 1, 7, all, 0, 1}, {6, math.MaxInt, 7, math.MaxInt, 1, trim},
	} {
		if from, to := seq.Trim(c.s, c.length, c.next, c.window); from != c.from || to != c.to {
			t.Errorf("Trim(%d, %d, %d, %d) = %d, %d, want %d, %d", c.s, c.length, c.next, c.window, from, to, c.from, c.to)
		}
	}
}
