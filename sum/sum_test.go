package sum_test

import (
	"bytes"
	"math"
	"slices"
	"testing"

	"towrope/api"
	"towrope/sum"
)

// edges are the words at which a sum can go wrong.
var edges = []int{0, 1, 2, 255, 256, 257, 0x7fff, 0x8000, 0x8001, 0xaaaa, 0xff00, 65533, 65534, 65535}

// beyond returns ints that have the 16 least significant bits of word, and others above them.
func beyond(word int) []int {
	return []int{word, word + 65536, word - 65536, word + 1<<31, word - 1<<31, word + 1<<40, math.MaxInt - 65535 + word, math.MinInt + word}
}

// folded is the sum of words told in another way: the numbers 1 to 65535 stand for the rests by 65535, and only zeros make 0.
func folded(total int) int {
	if total == 0 {
		return 0
	}
	return (total-1)%65535 + 1
}

// total adds the words of b without bringing a carry round.
func total(b []byte) int {
	n := 0
	for i, x := range b {
		if i%2 == 0 {
			n += 256 * int(x)
		} else {
			n += int(x)
		}
	}
	return n
}

// bytesOf writes words out.
func bytesOf(words ...int) []byte {
	var b []byte
	for _, w := range words {
		b = append(b, byte(w>>8), byte(w))
	}
	return b
}

// noise returns n bytes that follow no plain pattern, other ones for each seed.
func noise(n int, seed uint32) []byte {
	b := make([]byte, n)
	for i := range b {
		seed = seed*1664525 + 1013904223
		b[i] = byte(seed >> 24)
	}
	return b
}

// P2.1

func TestAdd(t *testing.T) {
	for _, c := range []struct{ a, b, want int }{
		{0, 0, 0},
		{1, 2, 3},
		{0, 65535, 65535},
		{65535, 0, 65535},
		{1, 65534, 65535}, // 65535 itself is left
		{65534, 1, 65535},
		{1, 65535, 1},
		{2, 65534, 1},
		{65535, 1, 1},
		{32768, 32767, 65535},
		{32768, 32768, 1},
		{65535, 65534, 65534},
		{65535, 65535, 65535},
		{0x1234, 0x5678, 0x68ac},
		{0xf203, 0xf4f5, 0xe6f9},
	} {
		if got := sum.Add(c.a, c.b); got != c.want {
			t.Errorf("Add(%d, %d) = %d; want %d", c.a, c.b, got, c.want)
		}
	}
	for _, a := range edges {
		for b := range 65536 {
			if got, want := sum.Add(a, b), folded(a+b); got != want {
				t.Fatalf("Add(%d, %d) = %d; want %d", a, b, got, want)
			}
		}
	}
}

func TestAddTakesSixteenBits(t *testing.T) {
	for _, c := range []struct{ a, b, want int }{
		{-1, 0, 65535},
		{0, -1, 65535},
		{-1, -1, 65535},
		{-1, 1, 1},
		{-65536, 0, 0},
		{65536, 0, 0},
		{0, 65536, 0},
		{65536, 65536, 0},
		{65537, 65537, 2},
		{131071, 0, 65535},
		{131071, 131071, 65535},
		{math.MaxInt, 0, 65535},
		{math.MaxInt, math.MaxInt, 65535},
		{math.MinInt, 5, 5},
		{math.MinInt, math.MinInt, 0},
		{math.MinInt, math.MaxInt, 65535},
	} {
		if got := sum.Add(c.a, c.b); got != c.want {
			t.Errorf("Add(%d, %d) = %d; want %d", c.a, c.b, got, c.want)
		}
	}
	for _, a := range edges {
		for _, b := range edges {
			for _, far := range beyond(a) {
				for _, off := range beyond(b) {
					if got, want := sum.Add(far, off), folded(a+b); got != want {
						t.Fatalf("Add(%d, %d) = %d; want %d", far, off, got, want)
					}
				}
			}
		}
	}
}

func TestSum(t *testing.T) {
	for _, c := range []struct {
		b    []byte
		want int
	}{
		{nil, 0},
		{[]byte{}, 0},
		{[]byte{0}, 0},
		{[]byte{0, 0}, 0},
		{make([]byte, 101), 0},
		{[]byte{1}, 256}, // as if a zero byte followed
		{[]byte{255}, 0xff00},
		{[]byte{1, 2}, 0x0102},
		{[]byte{0, 1}, 1},
		{[]byte{1, 2, 3}, 0x0402},
		{[]byte{1, 2, 3, 4}, 0x0406},
		{[]byte{1, 2, 3, 4, 5}, 0x0906},
		{bytesOf(65535), 65535},
		{bytesOf(0, 65535, 0), 65535},
		{bytesOf(65534, 1), 65535},
		{bytesOf(65535, 1), 1},
		{bytesOf(65535, 65535), 65535},
		{bytesOf(32768, 32768), 1},
		{bytesOf(32768, 32768, 65534), 65535},
		{bytesOf(32768, 32768, 65535), 1},
		{[]byte{255, 255, 1}, 0x0100},
		{[]byte{255, 1, 255}, 0xfe02},
		{[]byte{0x00, 0x01, 0xf2, 0x03, 0xf4, 0xf5, 0xf6, 0xf7}, 0xddf2}, // the chapter's example
	} {
		if got := sum.Sum(c.b); got != c.want {
			t.Errorf("Sum(% x) = %04x; want %04x", c.b, got, c.want)
		}
		if got := sum.Check(c.b); got != 65535-c.want {
			t.Errorf("Check(% x) = %04x; want %04x", c.b, got, 65535-c.want)
		}
		if got := sum.Right(c.b); got != (c.want == 65535) {
			t.Errorf("Right(% x) = %t, though its sum is %04x", c.b, got, c.want)
		}
	}
}

func TestSumOfEachLength(t *testing.T) {
	for n := range 600 {
		for _, b := range [][]byte{noise(n, uint32(n)), bytes.Repeat([]byte{255}, n), bytes.Repeat([]byte{128}, n)} {
			if got, want := sum.Sum(b), folded(total(b)); got != want {
				t.Fatalf("Sum of % x = %d; want %d", b, got, want)
			}
		}
	}
	// So many that a sum of 32 bits whose carry is brought round at the end alone is too small.
	b := bytes.Repeat([]byte{255, 254}, 70000)
	if got, want := sum.Sum(b), folded(total(b)); got != want {
		t.Errorf("Sum of %d bytes = %d; want %d", len(b), got, want)
	}
	b = bytes.Repeat([]byte{255}, 131075)
	if got, want := sum.Sum(b), folded(total(b)); got != want {
		t.Errorf("Sum of %d bytes = %d; want %d", len(b), got, want)
	}
}

func TestSumStopsAtTheLength(t *testing.T) {
	b := []byte{1, 2, 3, 4, 5, 6}
	for n, want := range []int{0, 0x0100, 0x0102, 0x0402, 0x0406, 0x0906, 0x090c} {
		if got := sum.Sum(b[:n]); got != want {
			t.Errorf("Sum of the first %d bytes = %04x; want %04x", n, got, want)
		}
	}
}

func TestCheckAndRight(t *testing.T) {
	header := []byte{0x45, 0, 0, 0x73, 0, 0, 0x40, 0, 0x40, 0x11, 0, 0, 0xc0, 0xa8, 0, 1, 0xc0, 0xa8, 0, 0xc7}
	if got := sum.Check(header); got != 0xb861 {
		t.Errorf("Check of a header = %04x; want b861", got)
	}
	if sum.Right(header) {
		t.Error("a header without its checksum is said to be right")
	}
	header[10], header[11] = 0xb8, 0x61
	if got := sum.Check(header); got != 0 || !sum.Right(header) {
		t.Errorf("Check of a header with its checksum = %04x, Right = %t", got, sum.Right(header))
	}
	if got := sum.Check([]byte{0x00, 0x01, 0xf2, 0x03, 0xf4, 0xf5, 0xf6, 0xf7}); got != 0x220d { // the chapter's example
		t.Errorf("Check = %04x; want 220d", got)
	}
	if got := sum.Check(nil); got != 65535 || sum.Right(nil) {
		t.Errorf("of no bytes: Check = %d, Right = %t", got, sum.Right(nil))
	}
	for word := range 65536 {
		b := bytesOf(word)
		if sum.Check(b) != 65535-word || sum.Right(b) != (word == 65535) {
			t.Fatalf("of the word %d: Check = %d, Right = %t", word, sum.Check(b), sum.Right(b))
		}
	}
}

// P2.2

func TestTurn(t *testing.T) {
	for _, c := range []struct{ check, was, now, want int }{
		{0, 0, 0, 0},
		{65535, 0, 0, 0}, // not 65535: one of the two zeros
		{65535, 0, 1, 65534},
		{65535, 0, 65535, 0},
		{0, 65535, 0, 0},
		{65535, 65535, 0, 65535}, // no other three words make 65535
		{0, 65535, 65535, 0},
		{0, 1, 1, 0},
		{0, 1, 2, 65534},
		{0, 2, 1, 1},
		{0, 65535, 1, 65534},
		{0x220d, 0x0001, 0x0002, 0x220c},
		{0x220d, 0xf203, 0x0000, 0x1411},
		{0xdd2f, 0x5555, 0x3285, 0x0000},
		{0xb861, 0x4011, 0x3f11, 0xb961}, // a hop less
		{100, 7, 7, 100},
	} {
		if got := sum.Turn(c.check, c.was, c.now); got != c.want {
			t.Errorf("Turn(%04x, %04x, %04x) = %04x; want %04x", c.check, c.was, c.now, got, c.want)
		}
	}
	for _, check := range edges {
		for _, was := range edges {
			for _, now := range edges {
				want := 65535 - folded(65535-check+65535-was+now)
				if got := sum.Turn(check, was, now); got != want {
					t.Errorf("Turn(%d, %d, %d) = %d; want %d", check, was, now, got, want)
				}
			}
		}
	}
}

func TestTurnTakesSixteenBits(t *testing.T) {
	if got := sum.Turn(-1, 65536, -65535); got != 65534 {
		t.Errorf("Turn(-1, 65536, -65535) = %d; want 65534", got)
	}
	for _, check := range edges {
		for _, was := range edges {
			for _, now := range edges {
				want := 65535 - folded(65535-check+65535-was+now)
				for i := range beyond(0) {
					c, w, n := beyond(check)[i], beyond(was)[i], beyond(now)[i]
					for _, l := range [][3]int{{c, was, now}, {check, w, now}, {check, was, n}, {c, w, n}} {
						if got := sum.Turn(l[0], l[1], l[2]); got != want {
							t.Fatalf("Turn(%d, %d, %d) = %d; want %d", l[0], l[1], l[2], got, want)
						}
					}
				}
			}
		}
	}
}

// P2.3

func TestHead(t *testing.T) {
	for _, c := range []struct {
		src, dst api.Addr
		proto    uint8
		n        int
		want     []byte
	}{
		{0, 0, 0, 0, make([]byte, 12)},
		{0x01020304, 0x05060708, 9, 0x0a0b, []byte{1, 2, 3, 4, 5, 6, 7, 8, 0, 9, 0x0a, 0x0b}},
		{1, 2, 17, 256, []byte{0, 0, 0, 1, 0, 0, 0, 2, 0, 17, 1, 0}},
		{math.MaxUint32, 0, 0, 0, []byte{255, 255, 255, 255, 0, 0, 0, 0, 0, 0, 0, 0}},
		{0, math.MaxUint32, 0, 0, []byte{0, 0, 0, 0, 255, 255, 255, 255, 0, 0, 0, 0}},
		{0, 0, 255, 0, []byte{0, 0, 0, 0, 0, 0, 0, 0, 0, 255, 0, 0}},
		{0, 0, 0, 65535, []byte{0, 0, 0, 0, 0, 0, 0, 0, 0, 0, 255, 255}},
		{0, 0, 6, 65536, []byte{0, 0, 0, 0, 0, 0, 0, 0, 0, 6, 0, 0}},
		{0, 0, 6, 65537, []byte{0, 0, 0, 0, 0, 0, 0, 0, 0, 6, 0, 1}},
		{0, 0, 6, -1, []byte{0, 0, 0, 0, 0, 0, 0, 0, 0, 6, 255, 255}},
		{0, 0, 6, -65536, []byte{0, 0, 0, 0, 0, 0, 0, 0, 0, 6, 0, 0}},
		{0, 0, 6, math.MaxInt, []byte{0, 0, 0, 0, 0, 0, 0, 0, 0, 6, 255, 255}},
		{0, 0, 6, math.MinInt, []byte{0, 0, 0, 0, 0, 0, 0, 0, 0, 6, 0, 0}},
	} {
		if got := sum.Head(c.src, c.dst, c.proto, c.n); !bytes.Equal(got, c.want) {
			t.Errorf("Head(%08x, %08x, %d, %d) = % x; want % x", uint32(c.src), uint32(c.dst), c.proto, c.n, got, c.want)
		}
	}
}

func TestOf(t *testing.T) {
	for _, c := range []struct {
		src, dst api.Addr
		proto    uint8
		data     []byte
		want     int
	}{
		{0, 0, 0, nil, 65535},
		{0, 0, 0, []byte{}, 65535},
		{0, 0, 17, nil, 65535 - 17},
		{0x00010002, 0x00030004, 5, nil, 65535 - 15},
		{0x00010002, 0x00030004, 5, []byte{1}, 65535 - 15 - 1 - 256},
		{0x00010002, 0x00030004, 5, []byte{1, 2}, 65535 - 15 - 2 - 258},
		{0x00010002, 0x00030004, 5, []byte{1, 2, 3}, 65535 - 15 - 3 - 258 - 768},
		{0xffff0000, 0, 0, nil, 0},
		{0xffffffff, 0xffffffff, 255, []byte{255, 255}, 65535 - 257},
		{0x98340a01, 0x08080808, 17, []byte{0x13, 0x88, 0x00, 0x35, 0x00, 0x0a, 0x00, 0x00, 0x61, 0x62}, 0xd875},
	} {
		if got := sum.Of(c.src, c.dst, c.proto, c.data); got != c.want {
			t.Errorf("Of(%08x, %08x, %d, % x) = %04x; want %04x", uint32(c.src), uint32(c.dst), c.proto, c.data, got, c.want)
		}
	}
}

func TestOfIsTheCheckOfHeadAndData(t *testing.T) {
	for _, n := range []int{0, 1, 2, 3, 19, 20, 255, 256, 257, 1500, 65534, 65535, 65536, 65537, 131072} {
		data := noise(n, uint32(n))
		got := sum.Of(0xc0a80001, 0x0a00fffe, 6, data)
		head := []byte{0xc0, 0xa8, 0, 1, 0x0a, 0, 0xff, 0xfe, 0, 6, byte(n >> 8), byte(n)}
		if want := 65535 - folded(total(append(head, data...))); got != want {
			t.Errorf("Of %d bytes = %d; want %d", n, got, want)
		}
		if want := sum.Check(append(sum.Head(0xc0a80001, 0x0a00fffe, 6, n), data...)); got != want {
			t.Errorf("Of %d bytes = %d, but Check of its head and them = %d", n, got, want)
		}
	}
}

// P2.4

func TestFollowedByItsCheckItIsRight(t *testing.T) {
	for n := 0; n < 600; n += 2 {
		for _, b := range [][]byte{noise(n, uint32(n)), make([]byte, n), bytes.Repeat([]byte{255}, n)} {
			if !sum.Right(append(b, bytesOf(sum.Check(b))...)) {
				t.Fatalf("not right with its check: % x", b)
			}
		}
	}
	for word := range 65536 {
		b := bytesOf(word)
		if !sum.Right(append(b, bytesOf(sum.Check(b))...)) {
			t.Fatalf("not right with its check: % x", b)
		}
	}
	data := noise(7, 7)
	check := sum.Of(1, 2, 3, data)
	if whole := append(sum.Head(1, 2, 3, len(data)), data...); !sum.Right(append(append(whole, 0), bytesOf(check)...)) {
		t.Error("not right with its check behind a zero byte")
	}
}

// same tells whether two checksums are equal but for the two zeros.
func same(a, b int) bool { return a == b || a+b == 65535 && (a == 0 || b == 0) }

func TestTurnIsTheChecksumComputedAnew(t *testing.T) {
	for _, first := range edges {
		for _, was := range edges {
			for _, now := range edges {
				turned := sum.Turn(sum.Check(bytesOf(first, was)), was, now)
				if anew := sum.Check(bytesOf(first, now)); !same(turned, anew) {
					t.Errorf("%d and %d that becomes %d: Turn = %d, but anew %d", first, was, now, turned, anew)
				}
			}
		}
	}
	b := noise(64, 1)
	check := sum.Check(b)
	for at := 0; at < len(b); at += 2 {
		was, now := total(b[at:at+2]), total(noise(2, uint32(at)))
		copy(b[at:], bytesOf(now))
		check = sum.Turn(check, was, now)
		if anew := sum.Check(b); !same(check, anew) {
			t.Fatalf("after the word at %d: Turn = %d, but anew %d", at, check, anew)
		}
	}
}

func TestOrderOfWordsHasNoInfluence(t *testing.T) {
	words := append([]int{0x1234, 0x4321, 0xfedc}, edges...)
	want := sum.Sum(bytesOf(words...))
	for by := range words {
		turned := append(slices.Clone(words[by:]), words[:by]...)
		if got := sum.Sum(bytesOf(turned...)); got != want {
			t.Errorf("Sum of the words turned by %d = %d; want %d", by, got, want)
		}
		slices.Reverse(turned)
		if got := sum.Sum(bytesOf(turned...)); got != want {
			t.Errorf("Sum of the words turned by %d and back to front = %d; want %d", by, got, want)
		}
	}
	if sum.Sum([]byte{1, 2}) == sum.Sum([]byte{2, 1}) {
		t.Error("the order of the bytes of a word has no influence")
	}
}
