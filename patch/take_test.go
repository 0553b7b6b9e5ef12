package patch_test

import (
	"math"
	"testing"
)

// P16.2: Ready with nothing at position 0, with one range from 0 on, with ranges behind a gap, and when the gap is filled.
func TestReady(t *testing.T) {
	for _, c := range []struct {
		picture string
		want    int
	}{
		{"......", 0}, {".b....", 0}, {".....f", 0}, {".bcdef", 0}, {".b.d.f", 0},
		{"a.....", 1}, {"abc...", 3}, {"abcde.", 5}, {"abcdef", 6},
		{"a.c...", 1}, {"ab.d.f", 2}, {"abcd.f", 4}, {"a.cdef", 1},
	} {
		for moved := range 8 {
			p := filled(t, moved, c.picture)
			if got := p.Ready(); got != c.want {
				t.Errorf("with %q, Ready() = %d, not %d", c.picture, got, c.want)
			}
			use(t, p, c.picture)
		}
	}
	p := start(t, 6)
	put(t, p, 4, "e", 1, "....e.")
	put(t, p, 1, "b", 1, ".b..e.")
	put(t, p, 2, "c", 1, ".bc.e.")
	if n := p.Ready(); n != 0 {
		t.Error(n)
	}
	put(t, p, 0, "a", 1, "abc.e.")
	if n := p.Ready(); n != 3 {
		t.Error(n)
	}
	put(t, p, 3, "d", 1, "abcde.")
	if n := p.Ready(); n != 5 {
		t.Error(n)
	}
	put(t, p, 5, "f", 1, "abcdef")
	if n := p.Ready(); n != 6 {
		t.Error(n)
	}
}

// P16.2: each number of each patch of up to seven positions, from each place of the ring on: the first n, or all if there are fewer. All other bytes, also those behind gaps, lie lower by the number taken.
func TestTakeOfEachNumberFromEachPatch(t *testing.T) {
	for room := 1; room <= 7; room++ {
		for _, picture := range pictures(room) {
			for n := -2; n <= room+2; n++ {
				for moved := range room + 1 {
					p := filled(t, moved, picture)
					k := max(0, min(n, stateLike(picture, 0).ready))
					left := picture[k:] + points(k)
					take(t, p, n, picture[:k], left)
					use(t, p, left)
				}
			}
		}
	}
}

// P16.2: none, whatever is asked for, if there is nothing at position 0.
func TestTakeWithNothingReady(t *testing.T) {
	for _, picture := range []string{"....", "...d", ".bcd", ".b.d"} {
		for moved := range 5 {
			p := filled(t, moved, picture)
			for _, n := range append(extremes(), -1, 0, 1, 2, 3, 4, 5) {
				take(t, p, n, "", picture)
				if b := p.Take(n); b != nil {
					t.Errorf("Take(%d) = %v", n, b)
				}
			}
			use(t, p, picture)
		}
	}
}

// P16.2: none if n is less than 1, also of a patch that is full.
func TestTakeOfNone(t *testing.T) {
	for _, picture := range []string{"a...", "ab.d", "abcd"} {
		p := filled(t, 3, picture)
		for _, n := range []int{0, -1, -2, -4, -5, -1 << 20, -1 << 32, math.MinInt + 1, math.MinInt} {
			take(t, p, n, "", picture)
		}
		use(t, p, picture)
	}
}

// P16.2: numbers that are far greater than what is ready.
func TestTakeOfMoreThanIsReady(t *testing.T) {
	for _, n := range []int{4, 5, 255, 256, 1 << 20, 1<<20 + 1, 1 << 32, 1<<32 + 1, math.MaxInt - 1, math.MaxInt} {
		for moved := range 6 {
			p := filled(t, moved, "abc..")
			take(t, p, n, "abc", ".....")
			p = filled(t, moved, "ab.d.")
			take(t, p, n, "ab", ".d...")
			take(t, p, n, "", ".d...")
			use(t, p, ".d...")
			p = filled(t, moved, "abcde")
			take(t, p, n, letters(min(n, 5)), "abcde"[min(n, 5):]+points(min(n, 5)))
		}
	}
}

// P16.2: byte by byte, as all at once.
func TestTakeByteByByte(t *testing.T) {
	for moved := range 8 {
		p := filled(t, moved, "abcd.fg")
		take(t, p, 1, "a", "bcd.fg.")
		take(t, p, 1, "b", "cd.fg..")
		take(t, p, 1, "c", "d.fg...")
		take(t, p, 1, "d", ".fg....")
		take(t, p, 1, "", ".fg....")
		put(t, p, 0, "e", 1, "efg....")
		take(t, p, 1, "e", "fg.....")
		take(t, p, 1, "f", "g......")
		take(t, p, 1, "g", ".......")
		take(t, p, 1, "", ".......")
	}
}

// P16.2: the bytes behind a gap come when it is filled, at the positions that they have by then.
func TestTakeInTurnsWithPut(t *testing.T) {
	p := start(t, 10)
	put(t, p, 2, "cd", 2, "..cd......")
	put(t, p, 6, "gh", 2, "..cd..gh..")
	take(t, p, 9, "", "..cd..gh..")
	put(t, p, 0, "ab", 2, "abcd..gh..")
	take(t, p, 3, "abc", "d..gh.....")
	put(t, p, 0, "XeX", 2, "deXgh.....")
	take(t, p, 2, "de", "Xgh.......")
	put(t, p, 8, "yz!", 2, "Xgh.....yz")
	take(t, p, 9, "Xgh", ".....yz...")
	put(t, p, 5, "12345", 3, ".....yz345")
	put(t, p, -3, "abcdefgh", 5, "defghyz345")
	take(t, p, 6, "defghy", "z345......")
	put(t, p, 4, letters(9), 6, "z345abcdef")
	take(t, p, math.MaxInt, "z345abcdef", "..........")
	expect(t, p, points(10), 24)
}
