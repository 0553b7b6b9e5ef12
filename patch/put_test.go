package patch_test

import (
	"math"
	"strings"
	"testing"

	"towrope/api"
)

// with is what a picture becomes when bytes are put, and how many of them are new: it goes from byte to byte.
func with(picture string, at int, bytes string) (string, int) {
	b, kept := []byte(picture), 0
	for i := range len(bytes) {
		if to := at + i; to >= 0 && to < len(b) && b[to] == '.' {
			b[to] = bytes[i]
			kept++
		}
	}
	return string(b), kept
}

// P16.1: no bytes, at any position, into patches with no bytes, with some and full.
func TestPutOfNoBytes(t *testing.T) {
	for _, picture := range []string{"....", "ab..", "..c.", "a.c.", "abcd"} {
		p := filled(t, 3, picture)
		for _, at := range append(extremes(), -2, -1, 0, 1, 2, 3, 4, 5) {
			put(t, p, at, "", 0, picture)
			if kept := p.Put(at, nil); kept != 0 {
				t.Errorf("Put(%d, nil) = %d", at, kept)
			}
			if kept := p.Put(at, make([]byte, 0, 9)); kept != 0 {
				t.Errorf("Put(%d) of no bytes with a capacity = %d", at, kept)
			}
			expect(t, p, picture, 3)
		}
		use(t, p, picture)
	}
}

// P16.1: pieces that are as a whole not in the positions, up to the farthest ones.
func TestPutOutsideOfThePositions(t *testing.T) {
	for _, picture := range []string{"....", "a..d", ".bc.", "abcd"} {
		for moved := range 6 {
			p := filled(t, moved, picture)
			for _, at := range extremes() {
				for _, bytes := range []string{"X", "XY", letters(20)} {
					put(t, p, at, bytes, 0, picture)
				}
			}
			for n := range 9 {
				put(t, p, -n, letters(n), 0, picture)
				put(t, p, -n-1, letters(n), 0, picture)
				put(t, p, 4, letters(n), 0, picture)
				put(t, p, 4+n, letters(n), 0, picture)
			}
			use(t, p, picture)
		}
	}
}

// P16.1: the first and the last position, and those next to them.
func TestPutAtTheEdges(t *testing.T) {
	p := start(t, 4)
	put(t, p, -1, "X", 0, "....")
	put(t, p, 4, "X", 0, "....")
	put(t, p, 0, "a", 1, "a...")
	put(t, p, 3, "d", 1, "a..d")
	put(t, p, -1, "Xa", 0, "a..d")
	put(t, p, 3, "dX", 0, "a..d")
	use(t, p, "a..d")
	p = start(t, 4)
	put(t, p, -1, "Xa", 1, "a...") // begins ahead of position 0
	put(t, p, 3, "dX", 1, "a..d")  // ends behind the last one
	put(t, p, -2, "XYZbcdUV", 2, "abcd")
	use(t, p, "abcd")
	p = start(t, 1)
	put(t, p, -1, "XaY", 1, "a") // both, and there is one position
	put(t, p, 0, "b", 0, "a")
	use(t, p, "a")
}

// P16.1: pieces much longer than a patch, that begin ahead of its positions, end behind them, and both.
func TestPutOfMoreThanThereArePositions(t *testing.T) {
	s := letters(3 << 20)
	for _, room := range []int{1, 7, 1000, api.MaxHose} {
		for _, at := range []int{0, -1, -2, -1000, -1<<20 + 3, -1 << 20, -1<<20 - 1, -2<<20 + 1, -3<<20 + room, -3<<20 + 1} {
			want := s[-at:min(len(s), room-at)]
			p := start(t, room)
			put(t, p, at, s, len(want), want+points(room-len(want)))
			put(t, p, at, s, 0, want+points(room-len(want)))
			take(t, p, room, want, points(room))
			put(t, p, at, s, len(want), want+points(room-len(want)))
			use(t, p, want+points(room-len(want)))
		}
	}
}

// P16.1: each piece into each patch of up to seven positions: pieces ahead of, in, over and behind each range and gap.
func TestPutOfEachPieceIntoEachPatch(t *testing.T) {
	for room := 1; room <= 7; room++ {
		for no, picture := range pictures(room) {
			for at := -3; at <= room+2; at++ {
				for n := 1; n <= room+6; n++ {
					bytes := strings.ToUpper(letters(n))
					p := filled(t, no%(room+1), picture)
					want, kept := with(picture, at, bytes)
					put(t, p, at, bytes, kept, want)
					use(t, p, want)
				}
			}
		}
	}
}

// P16.1: how a piece may lie to the ranges, a case each.
func TestPutNextToRanges(t *testing.T) {
	for _, c := range []struct {
		what, was string
		at        int
		bytes     string
		kept      int
		want      string
	}{
		{"into nothing", "............", 4, "XYZ", 3, "....XYZ....."},
		{"in a gap", "ab........kl", 4, "XYZ", 3, "ab..XYZ...kl"},
		{"fills a gap", "abc...ghi...", 3, "XYZ", 3, "abcXYZghi..."},
		{"fills the gap ahead of all", "...def......", 0, "XYZ", 3, "XYZdef......"},
		{"fills the gap behind all", "......ghi...", 9, "XYZ", 3, "......ghiXYZ"},
		{"fills one of several gaps", ".b.d.f.h.j.l", 4, "X", 1, ".b.dXf.h.j.l"},
		{"touches a range ahead", "ab........kl", 2, "XYZ", 3, "abXYZ.....kl"},
		{"touches a range behind", "ab........kl", 7, "XYZ", 3, "ab.....XYZkl"},
		{"touches on both sides", "ab...fg...kl", 7, "XYZ", 3, "ab...fgXYZkl"},
		{"just not touching", "ab.....hi...", 3, "XYZ", 3, "ab.XYZ.hi..."},
		{"a range again", "..cde..hi...", 2, "cde", 0, "..cde..hi..."},
		{"a range again with other bytes", "..cde..hi...", 2, "XYZ", 0, "..cde..hi..."},
		{"within a range", ".bcdefgh.j..", 3, "XYZ", 0, ".bcdefgh.j.."},
		{"at the beginning of a range", ".bcdefgh.j..", 1, "XYZ", 0, ".bcdefgh.j.."},
		{"at the end of a range", ".bcdefgh.j..", 5, "XYZ", 0, ".bcdefgh.j.."},
		{"holds a range", "a...ef.....l", 3, "UVWXYZ", 4, "a..UefXYZ..l"},
		{"holds several ranges", "a..d.fg..j.l", 2, "RSTUVWXYZ", 5, "a.RdTfgWXjZl"},
		{"holds all", "..c.....i...", 0, "OPQRSTUVWXYZ", 10, "OPcRSTUViXYZ"},
		{"reaches into a range from ahead", "....efgh....", 2, "WXYZ", 2, "..WXefgh...."},
		{"reaches into a range from behind", "....efgh....", 6, "WXYZ", 2, "....efghYZ.."},
		{"reaches into one on either side", ".bcd...hij..", 2, "STUVWXY", 3, ".bcdUVWhij.."},
		{"reaches to the end of a range", "...def......", 1, "VWXYZ", 2, ".VWdef......"},
		{"from the beginning of a range on", "...def......", 3, "VWXYZ", 2, "...defYZ...."},
		{"from one range over a second to a third", ".bc..fg..jk.", 2, "QRSTUVWXYZ", 5, ".bcRSfgVWjkZ"},
		{"from ahead of the positions over ranges", ".b..e.......", -3, "QRSTUVWXYZ", 5, "TbVWeYZ....."},
		{"over ranges behind the positions", ".......h.j..", 6, "QRSTUVWXYZ", 4, "......QhSjUV"},
		{"into a full one", "abcdefghijkl", -5, letters(30), 0, "abcdefghijkl"},
	} {
		for _, moved := range []int{0, 1, 5, 11, 12, 13} {
			p := filled(t, moved, c.was)
			if got := p.Put(c.at, []byte(c.bytes)); got != c.kept {
				t.Errorf("%s: Put(%d, %q) = %d, not %d", c.what, c.at, c.bytes, got, c.kept)
			}
			expect(t, p, c.want, moved)
			put(t, p, c.at, c.bytes, 0, c.want) // a second time
			put(t, p, c.at, strings.ToLower(c.bytes), 0, c.want)
			use(t, p, c.want)
		}
	}
}

// P16.1: the bytes that are there already stay, also when others are put over them again and again.
func TestBytesThatAreThereStay(t *testing.T) {
	for moved := range 8 {
		p := filled(t, moved, ".......")
		put(t, p, 3, "d", 1, "...d...")
		put(t, p, 2, "cXe", 2, "..cde..")
		put(t, p, 1, "bYYYf", 2, ".bcdef.")
		put(t, p, 0, "aZZZZZg", 2, "abcdefg")
		put(t, p, 0, "UUUUUUU", 0, "abcdefg")
		take(t, p, 2, "ab", "cdefg..")
		put(t, p, 0, "VVVVVVV", 2, "cdefgVV")
		use(t, p, "cdefgVV")
	}
}

// P16.1: what was taken is no byte that is there: its place gets another one.
func TestPlacesAreUsedAgain(t *testing.T) {
	for room := 1; room <= 9; room++ {
		p := start(t, room)
		for round := range 3 * room {
			first := letters(26)[round%10:][:room]
			put(t, p, 0, first, room, first)
			put(t, p, 0, strings.ToUpper(first), 0, first)
			n := 1 + round%room
			take(t, p, n, first[:n], first[n:]+points(n))
			put(t, p, room-n, strings.Repeat("#", n), n, first[n:]+strings.Repeat("#", n))
			take(t, p, room, first[n:]+strings.Repeat("#", n), points(room))
		}
	}
}

// P16.1: byte by byte, from the front, from the back and from the middle, as all at once.
func TestPutByteByByte(t *testing.T) {
	for moved := range 10 {
		for _, order := range [][]int{{0, 1, 2, 3, 4, 5, 6, 7, 8}, {8, 7, 6, 5, 4, 3, 2, 1, 0}, {4, 3, 5, 2, 6, 1, 7, 0, 8}, {0, 8, 1, 7, 2, 6, 3, 5, 4}, {0, 2, 4, 6, 8, 1, 3, 5, 7}, {8, 6, 4, 2, 0, 7, 5, 3, 1}} {
			p := filled(t, moved, points(9))
			picture := points(9)
			for _, at := range order {
				picture, _ = with(picture, at, letters(9)[at:at+1])
				put(t, p, at, letters(9)[at:at+1], 1, picture)
				put(t, p, at, "X", 0, picture)
			}
			take(t, p, 9, letters(9), points(9))
		}
	}
}

// P16.1: any bytes are stored, 0 and 255 among them.
func TestPutOfAnyBytes(t *testing.T) {
	all := make([]byte, 256)
	for i := range all {
		all[i] = byte(i)
	}
	for _, moved := range []int{0, 1, 100, 255, 256} {
		p := filled(t, moved, points(256))
		if n := p.Put(100, all[100:]); n != 156 {
			t.Error(n)
		}
		if n := p.Put(0, all); n != 100 {
			t.Error(n)
		}
		if b := p.Take(256); string(b) != string(all) {
			t.Error(b)
		}
		if n := p.Put(1, make([]byte, 300)); n != 255 || p.Ready() != 0 {
			t.Error(n, p.Ready())
		}
		if n := p.Put(0, all[255:]); n != 1 {
			t.Error(n)
		}
		if b := p.Take(math.MaxInt); string(b) != "\xff"+strings.Repeat("\x00", 255) {
			t.Error(b)
		}
	}
}

// The greatest patch, with several numbers taken before.
func TestPutIntoTheGreatestPatch(t *testing.T) {
	const room = api.MaxHose
	s := letters(room + 5)
	for _, moved := range []int{0, 1, 1 << 19, room - 1, room, room + 1} {
		p := start(t, room)
		for left := moved; left > 0; left -= len(p.Take(room)) {
			p.Put(0, []byte(s[:min(left, room)]))
		}
		put(t, p, room-1, "XYZ", 1, points(room-1)+"X")
		put(t, p, room, "XYZ", 0, points(room-1)+"X")
		put(t, p, 1, "bc", 2, ".bc"+points(room-4)+"X")
		put(t, p, 0, s, room-3, s[:room-1]+"X")
		take(t, p, 3, "abc", s[3:room-1]+"X...")
		put(t, p, room-3, "RST", 3, s[3:room-1]+"XRST")
		take(t, p, room-4, s[3:room-1], "XRST"+points(room-4))
		take(t, p, room, "XRST", points(room))
	}
}
