package patch_test

import (
	"slices"
	"testing"

	"towrope/api"
)

// P16.2: the ranges as numbers, of patches with no bytes, with one range, with several and full.
func TestSpansLenAndMoved(t *testing.T) {
	for _, c := range []struct {
		picture string
		want    [][2]int
		len     int
	}{
		{"........", nil, 0},
		{"a.......", [][2]int{{0, 1}}, 1},
		{".......h", [][2]int{{7, 8}}, 1},
		{"...d....", [][2]int{{3, 4}}, 1},
		{"..cdef..", [][2]int{{2, 6}}, 4},
		{"abcd....", [][2]int{{0, 4}}, 4},
		{"....efgh", [][2]int{{4, 8}}, 4},
		{"abcdefgh", [][2]int{{0, 8}}, 8},
		{"a......h", [][2]int{{0, 1}, {7, 8}}, 2},
		{"abc.efgh", [][2]int{{0, 3}, {4, 8}}, 7},
		{".bc..fg.", [][2]int{{1, 3}, {5, 7}}, 4},
		{"a.c.e.g.", [][2]int{{0, 1}, {2, 3}, {4, 5}, {6, 7}}, 4},
		{".b.d.f.h", [][2]int{{1, 2}, {3, 4}, {5, 6}, {7, 8}}, 4},
		{"ab.de.gh", [][2]int{{0, 2}, {3, 5}, {6, 8}}, 6},
	} {
		for moved := range 10 {
			p := filled(t, moved, c.picture)
			if got := p.Spans(); !slices.Equal(got, c.want) {
				t.Errorf("with %q, Spans() = %v, not %v", c.picture, got, c.want)
			}
			if got := p.Len(); got != c.len {
				t.Errorf("with %q, Len() = %d, not %d", c.picture, got, c.len)
			}
			if got := p.Moved(); got != moved {
				t.Errorf("with %q, Moved() = %d, not %d", c.picture, got, moved)
			}
		}
	}
}

// P16.2: what a patch tells of itself after each kind of call, with no bytes, one range, several, and full.
func TestStateAfterEachKindOfCall(t *testing.T) {
	p := start(t, 6)
	expect(t, p, "......", 0)
	take(t, p, 3, "", "......")
	put(t, p, 2, "", 0, "......")
	put(t, p, 6, "X", 0, "......")
	put(t, p, -1, "X", 0, "......")
	expect(t, p, "......", 0)
	put(t, p, 2, "c", 1, "..c...") // one range
	take(t, p, 3, "", "..c...")
	put(t, p, 2, "X", 0, "..c...")
	put(t, p, 3, "d", 1, "..cd..")
	put(t, p, 0, "a", 1, "a.cd..") // several
	put(t, p, 5, "f", 1, "a.cd.f")
	take(t, p, 0, "", "a.cd.f")
	expect(t, p, "a.cd.f", 0)
	take(t, p, 3, "a", ".cd.f.")
	expect(t, p, ".cd.f.", 1)
	put(t, p, 0, "b", 1, "bcd.f.")
	take(t, p, 1, "b", "cd.f..")
	expect(t, p, "cd.f..", 2)
	put(t, p, 0, "XXeXgh", 3, "cdefgh") // full
	put(t, p, 0, "XXXXXX", 0, "cdefgh")
	take(t, p, -1, "", "cdefgh")
	expect(t, p, "cdefgh", 2)
	take(t, p, 4, "cdef", "gh....")
	expect(t, p, "gh....", 6)
	take(t, p, 9, "gh", "......") // none any more
	take(t, p, 9, "", "......")
	expect(t, p, "......", 8)
}

// P16.2: Moved over many rounds, of which it counts each byte, and no byte that is not taken.
func TestMovedOverManyRounds(t *testing.T) {
	for _, room := range []int{1, 2, 3, 7, 64} {
		p := start(t, room)
		moved, kept := 0, 0
		for round := range 1000 {
			kept += p.Put(round%3, []byte(letters(1+round%(room+1))))
			moved += len(p.Take(round % (room + 1)))
			if p.Moved() != moved || p.Len() != kept-moved {
				t.Fatalf("room %d, round %d: %d moved, not %d; %d stored, not %d", room, round, p.Moved(), moved, p.Len(), kept-moved)
			}
		}
		if moved < 300 {
			t.Error(room, moved)
		}
	}
}

// Moved counts more bytes than the greatest patch has positions.
func TestMovedIsMoreThanTheGreatestPatch(t *testing.T) {
	p := start(t, api.MaxHose)
	s := []byte(letters(api.MaxHose))
	for round := range 20 {
		if n := p.Put(0, s); n != len(s) {
			t.Fatal(round, n)
		}
		if b := p.Take(len(s)); len(b) != len(s) {
			t.Fatal(round, len(b))
		}
		if n := p.Moved(); n != (round+1)<<20 || p.Len() != 0 {
			t.Fatal(round, n)
		}
	}
}

// As many ranges as there may be, which come and go one by one.
func TestSpansOfManyRanges(t *testing.T) {
	const room, ranges = 4096, 2048
	p := start(t, room)
	for i := range ranges { // a byte at each even position, in an order of no plain pattern
		if n := p.Put(i*1237%ranges*2, []byte("a")); n != 1 || p.Len() != i+1 || len(p.Spans()) != i+1 {
			t.Fatal(i, n, p.Len(), len(p.Spans()))
		}
	}
	var want [][2]int
	for i := range ranges {
		want = append(want, [2]int{2 * i, 2*i + 1})
	}
	for i := range ranges { // then the first gap is filled, again and again
		if got := p.Spans(); !slices.Equal(got, want[:ranges-i]) || p.Ready() != 1 || p.Len() != ranges-i {
			t.Fatal(i, len(got), p.Ready(), p.Len())
		}
		if n := p.Put(1, []byte("b")); n != 1 {
			t.Fatal(i, n)
		}
		if b := p.Take(2); string(b) != "ab" {
			t.Fatal(i, string(b))
		}
	}
	expect(t, p, points(room), room)
}
