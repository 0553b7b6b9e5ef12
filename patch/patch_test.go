package patch_test

import (
	"fmt"
	"math"
	"strings"
	"testing"

	"towrope/api"
	"towrope/patch"
)

// state is all that a patch tells of itself.
type state struct {
	spans             string
	ready, len, moved int
}

// stateOf asks a patch for all of it.
func stateOf(p *patch.Patch) state {
	return state{fmt.Sprint(p.Spans()), p.Ready(), p.Len(), p.Moved()}
}

// isByte tells whether a position has a byte: a picture of a patch has a point for each position that has none.
func isByte(picture string, at int) bool {
	return at >= 0 && at < len(picture) && picture[at] != '.'
}

// stateLike is what a patch with these bytes has to tell of itself.
func stateLike(picture string, moved int) state {
	spans, count := [][2]int{}, 0
	for at := range len(picture) + 1 {
		if isByte(picture, at) {
			count++
		}
		if isByte(picture, at) && !isByte(picture, at-1) {
			spans = append(spans, [2]int{at, 0})
		}
		if isByte(picture, at-1) && !isByte(picture, at) {
			spans[len(spans)-1][1] = at
		}
	}
	ready := strings.IndexByte(picture+".", '.')
	return state{fmt.Sprint(spans), ready, count, moved}
}

// expect compares all that a patch tells of itself.
func expect(t *testing.T, p *patch.Patch, picture string, moved int) {
	t.Helper()
	if got, want := stateOf(p), stateLike(picture, moved); got != want {
		t.Errorf("the patch is %+v, not %+v as %q", got, want, picture)
	}
}

// use compares all bytes of a patch: it puts a point wherever there is none, and takes all.
func use(t *testing.T, p *patch.Patch, picture string) {
	t.Helper()
	moved := p.Moved()
	room := len(picture)
	if got, want := p.Put(0, []byte(strings.Repeat(".", room+1))), strings.Count(picture, "."); got != want {
		t.Errorf("%d positions have no byte, not %d as in %q", got, want, picture)
	}
	expect(t, p, strings.Repeat("#", room), moved)
	if got := string(p.Take(room + 1)); got != picture {
		t.Errorf("the bytes are %q, not %q", got, picture)
	}
	expect(t, p, strings.Repeat(".", room), moved+room)
}

// start is a new patch.
func start(t *testing.T, room int) *patch.Patch {
	t.Helper()
	p, e := patch.New(room)
	if p == nil || e != api.OK {
		t.Fatalf("New(%d): no patch, error %d", room, int(e))
	}
	return p
}

// filled is a new patch of which so many bytes were taken, and which then got the bytes of a picture.
func filled(t *testing.T, moved int, picture string) *patch.Patch {
	t.Helper()
	p := start(t, len(picture))
	for range moved {
		p.Put(0, []byte("~"))
		p.Take(1)
	}
	for at := range len(picture) {
		if isByte(picture, at) {
			p.Put(at, []byte(picture[at:at+1]))
		}
	}
	expect(t, p, picture, moved)
	return p
}

// put puts bytes, of which so many are new, and compares what the patch is then.
func put(t *testing.T, p *patch.Patch, at int, bytes string, kept int, picture string) {
	t.Helper()
	moved := p.Moved()
	if got := p.Put(at, []byte(bytes)); got != kept {
		t.Errorf("Put(%d, %q) = %d, not %d", at, bytes, got, kept)
	}
	expect(t, p, picture, moved)
}

// take takes bytes, and compares them and what the patch is then.
func take(t *testing.T, p *patch.Patch, n int, want, picture string) {
	t.Helper()
	moved := p.Moved()
	if got := p.Take(n); string(got) != want {
		t.Errorf("Take(%d) = %q, not %q", n, got, want)
	}
	expect(t, p, picture, moved+len(want))
}

// points are a picture of n positions without bytes.
func points(n int) string { return strings.Repeat(".", n) }

// letters are n bytes, of which none is as its neighbors.
func letters(n int) string {
	b := make([]byte, n)
	for i := range b {
		b[i] = 'a' + byte(i%26)
	}
	return string(b)
}

// pictures are all pictures of n positions, the bytes being letters.
func pictures(n int) []string {
	var l []string
	for some := range 1 << n {
		b := []byte(letters(n))
		for at := range b {
			if some>>at&1 == 0 {
				b[at] = '.'
			}
		}
		l = append(l, string(b))
	}
	return l
}

// extremes are the least ints, the greatest ones, and some that are less far.
func extremes() []int {
	return []int{math.MinInt, math.MinInt + 1, -1 << 32, -1<<32 + 1, -1 << 20, 1<<20 + 1, 1 << 32, 1<<32 + 1, math.MaxInt - 1, math.MaxInt}
}

func TestExampleOfTheChapter(t *testing.T) {
	p := start(t, 9)
	if n := p.Put(2, []byte{3, 4}); n != 2 {
		t.Error(n)
	}
	if n := p.Ready(); n != 0 {
		t.Error(n)
	}
	if n := p.Put(0, []byte{1, 2, 9}); n != 2 {
		t.Error(n)
	}
	if b := p.Take(9); string(b) != "\x01\x02\x03\x04" {
		t.Error(b)
	}
	expect(t, p, points(9), 4)
}

// P16.1
func TestNewHasItsBounds(t *testing.T) {
	if api.MaxHose != 1<<20 || api.ErrArg != 1 {
		t.Fatal(api.MaxHose, int(api.ErrArg))
	}
	for _, room := range []int{1, 2, 3, 4, 5, 255, 256, 257, 65535, 65536, 65537, 1<<20 - 1, 1 << 20} {
		p := start(t, room)
		expect(t, p, points(room), 0)
		take(t, p, 1, "", points(room))
		put(t, p, room, "a", 0, points(room))
		put(t, p, room-1, "az", 1, points(room-1)+"a")
		put(t, p, 0, letters(room+3), room-1, letters(room))
		take(t, p, room+3, letters(room-1)+"a", points(room))
	}
	for _, room := range []int{math.MinInt, math.MinInt + 1, -1 << 32, -1 << 20, -2, -1, 0, 1<<20 + 1, 1<<20 + 2, 1 << 21, 1 << 32, 1<<32 + 1, math.MaxInt - 1, math.MaxInt} {
		if p, e := patch.New(room); p != nil || e != api.ErrArg {
			t.Errorf("New(%d): error %d", room, int(e))
		}
	}
}

// New is a pure function: what happens to one patch does not show at another.
func TestPatchesDoNotAffectOneAnother(t *testing.T) {
	a, b := start(t, 6), start(t, 4)
	put(t, a, 2, "cd", 2, "..cd..")
	expect(t, b, "....", 0)
	put(t, b, 0, "w", 1, "w...")
	put(t, b, 3, "z", 1, "w..z")
	expect(t, a, "..cd..", 0)
	take(t, b, 9, "w", "..z.")
	expect(t, a, "..cd..", 0)
	put(t, a, 0, "abx", 2, "abcd..")
	expect(t, b, "..z.", 1)
	take(t, a, 3, "abc", "d.....")
	expect(t, b, "..z.", 1)
	put(t, b, 0, "xyx", 2, "xyz.")
	expect(t, a, "d.....", 3)
	use(t, a, "d.....")
	use(t, b, "xyz.")
	expect(t, start(t, 6), "......", 0)
}

// The same calls of two patches, in step, with other bytes.
func TestTwoPatchesInStep(t *testing.T) {
	a, b := start(t, 5), start(t, 5)
	for range 20 {
		put(t, a, 3, "de", 2, "...de")
		put(t, b, 3, "DE", 2, "...DE")
		put(t, a, 0, "abc", 3, "abcde")
		put(t, b, 0, "ABC", 3, "ABCDE")
		take(t, a, 4, "abcd", "e....")
		take(t, b, 4, "ABCD", "E....")
		take(t, a, 4, "e", ".....")
		take(t, b, 4, "E", ".....")
	}
}

// "On a nil patch, all functions return 0 or nothing."
func TestNilPatch(t *testing.T) {
	var p *patch.Patch
	ints := append(extremes(), -2, -1, 0, 1, 2, 1<<20-1, 1<<20)
	for _, n := range ints {
		if b := p.Take(n); b != nil {
			t.Errorf("Take(%d) = %v", n, b)
		}
		for _, b := range [][]byte{nil, {}, {1}, {1, 2, 3}, make([]byte, 1<<20), make([]byte, 1<<20+1)} {
			if kept := p.Put(n, b); kept != 0 {
				t.Errorf("Put(%d, %d bytes) = %d", n, len(b), kept)
			}
		}
		expect(t, p, "", 0)
	}
	if l := p.Spans(); l != nil {
		t.Error(l)
	}
	if p.Ready() != 0 || p.Len() != 0 || p.Moved() != 0 {
		t.Error(stateOf(p))
	}
}

// What is asked of a patch does not change it.
func TestAskingChangesNothing(t *testing.T) {
	for _, picture := range []string{".....", "ab...", "..cd.", "a.c.e", "abcde"} {
		for moved := range 6 {
			p := filled(t, moved, picture)
			for range 10 {
				p.Len()
				p.Ready()
				p.Spans()
				p.Moved()
				p.Take(0)
				p.Put(1, nil)
				expect(t, p, picture, moved)
			}
			use(t, p, picture)
		}
	}
}
