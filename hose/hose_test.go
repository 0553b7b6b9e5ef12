package hose_test

import (
	"math"
	"strings"
	"testing"

	"towrope/api"
	"towrope/hose"
)

// state is all that a hose tells of itself.
type state struct {
	bytes         string
	room, in, out int
}

// stateOf asks a hose for all of it.
func stateOf(t *testing.T, h *hose.Hose) state {
	t.Helper()
	b := h.Peek(0, math.MaxInt)
	if n := h.Len(); n != len(b) {
		t.Errorf("Len() = %d, and there are the bytes %q", n, b)
	}
	in, out := h.Passed()
	return state{string(b), h.Room(), in, out}
}

// expect compares all that a hose tells of itself.
func expect(t *testing.T, h *hose.Hose, bytes string, room, in, out int) {
	t.Helper()
	want := state{bytes, room, in, out}
	if got := stateOf(t, h); got != want {
		t.Errorf("the hose is %+v, not %+v", got, want)
	}
}

// start is a new hose.
func start(t *testing.T, room int) *hose.Hose {
	t.Helper()
	h, e := hose.New(room)
	if h == nil || e != api.OK {
		t.Fatalf("New(%d): no hose, error %d", room, int(e))
	}
	return h
}

// filled is a new hose that was written and read until its next byte has this place in the ring, and then got these bytes.
func filled(t *testing.T, room, place int, bytes string) *hose.Hose {
	t.Helper()
	h := start(t, room)
	for range place {
		write(t, h, "~", 1)
		read(t, h, 1, "~")
	}
	write(t, h, bytes, len(bytes))
	return h
}

// write appends bytes, of which as many of the first as are wanted get in.
func write(t *testing.T, h *hose.Hose, bytes string, want int) {
	t.Helper()
	was := stateOf(t, h)
	if got := h.Write([]byte(bytes)); got != want {
		t.Errorf("Write(%q) = %d, not %d", bytes, got, want)
	}
	expect(t, h, was.bytes+bytes[:want], was.room-want, was.in+want, was.out)
}

// read takes bytes, and compares them: they are gone then, and the others stay.
func read(t *testing.T, h *hose.Hose, n int, want string) {
	t.Helper()
	was := stateOf(t, h)
	if got := h.Read(n); string(got) != want {
		t.Errorf("Read(%d) = %q, not %q", n, got, want)
	}
	expect(t, h, strings.TrimPrefix(was.bytes, want), was.room+len(want), was.in, was.out+len(want))
}

// peek looks at bytes, and compares them: nothing is gone then.
func peek(t *testing.T, h *hose.Hose, at, n int, want string) {
	t.Helper()
	was := stateOf(t, h)
	if got := h.Peek(at, n); string(got) != want {
		t.Errorf("Peek(%d, %d) = %q, not %q", at, n, got, want)
	}
	expect(t, h, was.bytes, was.room, was.in, was.out)
}

// drop removes bytes, as many as are wanted: the others stay.
func drop(t *testing.T, h *hose.Hose, n, want int) {
	t.Helper()
	was := stateOf(t, h)
	if got := h.Drop(n); got != want {
		t.Errorf("Drop(%d) = %d, not %d", n, got, want)
	}
	expect(t, h, was.bytes[want:], was.room+want, was.in, was.out+want)
}

// letters are n bytes, of which none is as its neighbors.
func letters(n int) string {
	b := make([]byte, n)
	for i := range b {
		b[i] = 'a' + byte(i%26)
	}
	return string(b)
}

// extremes are the least ints, the greatest ones, and some that are less far.
func extremes() []int {
	return []int{math.MinInt, math.MinInt + 1, -1 << 32, -1 << 20, -1, 1 << 20, 1<<20 + 1, 1 << 32, 1<<32 + 1, math.MaxInt - 1, math.MaxInt}
}

func TestExampleOfTheChapter(t *testing.T) {
	h := start(t, 4)
	if n := h.Write([]byte{1, 2, 3}); n != 3 {
		t.Error(n)
	}
	if b := h.Read(2); string(b) != "\x01\x02" {
		t.Error(b)
	}
	if n := h.Write([]byte{4, 5, 6}); n != 3 {
		t.Error(n)
	}
	if b := h.Read(9); string(b) != "\x03\x04\x05\x06" {
		t.Error(b)
	}
	expect(t, h, "", 4, 6, 6)
}

// P15.1
func TestNewHasItsBounds(t *testing.T) {
	if api.MaxHose != 1<<20 || api.ErrArg != 1 {
		t.Fatal(api.MaxHose, int(api.ErrArg))
	}
	for _, room := range []int{1, 2, 3, 4, 5, 255, 256, 257, 65535, 65536, 65537, 1<<20 - 1, 1 << 20} {
		h := start(t, room)
		expect(t, h, "", room, 0, 0)
		read(t, h, 1, "")
		peek(t, h, 0, 1, "")
		drop(t, h, 1, 0)
		write(t, h, "", 0)
		write(t, h, letters(room+3), room)
		expect(t, h, letters(room), 0, room, 0)
		write(t, h, "!", 0)
		read(t, h, room+3, letters(room))
		expect(t, h, "", room, room, room)
	}
	for _, room := range []int{math.MinInt, math.MinInt + 1, -1 << 32, -1 << 20, -2, -1, 0, 1<<20 + 1, 1<<20 + 2, 1 << 21, 1 << 32, 1<<32 + 1, math.MaxInt} {
		if h, e := hose.New(room); h != nil || e != api.ErrArg {
			t.Errorf("New(%d): error %d", room, int(e))
		}
	}
}

// New is a pure function: what happens to one hose does not show at another.
func TestHosesDoNotAffectOneAnother(t *testing.T) {
	a, b := start(t, 5), start(t, 3)
	write(t, a, "abcd", 4)
	expect(t, b, "", 3, 0, 0)
	write(t, b, "wxyz", 3)
	expect(t, a, "abcd", 1, 4, 0)
	read(t, a, 2, "ab")
	expect(t, b, "wxy", 0, 3, 0)
	drop(t, b, 1, 1)
	expect(t, a, "cd", 3, 4, 2)
	write(t, a, "efg", 3)
	expect(t, b, "xy", 1, 3, 1)
	write(t, b, "z", 1)
	expect(t, a, "cdefg", 0, 7, 2)
	peek(t, b, 1, 9, "yz")
	read(t, b, 9, "xyz")
	expect(t, a, "cdefg", 0, 7, 2)
	drop(t, a, 9, 5)
	expect(t, b, "", 3, 4, 4)
	expect(t, start(t, 5), "", 5, 0, 0)
}

// The same bytes written to two hoses, in step.
func TestTwoHosesInStep(t *testing.T) {
	a, b := start(t, 6), start(t, 6)
	for range 20 {
		for _, h := range []*hose.Hose{a, b} {
			write(t, h, "abcd", 4)
		}
		read(t, a, 4, "abcd")
		drop(t, b, 3, 3)
		read(t, b, 1, "d")
	}
	expect(t, a, "", 6, 80, 80)
	expect(t, b, "", 6, 80, 80)
}

// "On a nil hose, all functions return 0 or nothing."
func TestNilHose(t *testing.T) {
	var h *hose.Hose
	for _, n := range append(extremes(), 0, 1, 2) {
		read(t, h, n, "")
		drop(t, h, n, 0)
		for _, at := range append(extremes(), 0, 1, 2) {
			peek(t, h, at, n, "")
		}
		if b := h.Read(n); b != nil {
			t.Errorf("Read(%d) = %v", n, b)
		}
		if b := h.Peek(0, n); b != nil {
			t.Errorf("Peek(0, %d) = %v", n, b)
		}
	}
	if n := h.Write(nil); n != 0 {
		t.Error(n)
	}
	for _, s := range []string{"", "a", "abc", letters(1 << 20), letters(1<<20 + 1)} {
		write(t, h, s, 0)
	}
	expect(t, h, "", 0, 0, 0)
}

// P15.2: Len, Room and Passed after each kind of call, the hose being empty, in part full, and full.
func TestStateAfterEachKindOfCall(t *testing.T) {
	h := start(t, 4)
	expect(t, h, "", 4, 0, 0)
	read(t, h, 3, "")
	drop(t, h, 3, 0)
	peek(t, h, 0, 3, "")
	write(t, h, "", 0)
	expect(t, h, "", 4, 0, 0)
	write(t, h, "ab", 2) // in part full
	expect(t, h, "ab", 2, 2, 0)
	peek(t, h, 1, 1, "b")
	read(t, h, 0, "")
	drop(t, h, 0, 0)
	write(t, h, "", 0)
	expect(t, h, "ab", 2, 2, 0)
	read(t, h, 1, "a")
	expect(t, h, "b", 3, 2, 1)
	write(t, h, "c", 1)
	drop(t, h, 1, 1)
	expect(t, h, "c", 3, 3, 2)
	write(t, h, "defg", 3) // full
	expect(t, h, "cdef", 0, 6, 2)
	write(t, h, "g", 0)
	write(t, h, "", 0)
	peek(t, h, 3, 1, "f")
	read(t, h, -1, "")
	drop(t, h, -1, 0)
	expect(t, h, "cdef", 0, 6, 2)
	read(t, h, 1, "c")
	expect(t, h, "def", 1, 6, 3)
	write(t, h, "ghi", 1)
	expect(t, h, "defg", 0, 7, 3)
	drop(t, h, 2, 2)
	expect(t, h, "fg", 2, 7, 5)
	read(t, h, 9, "fg") // empty
	expect(t, h, "", 4, 7, 7)
	read(t, h, 9, "")
	drop(t, h, 9, 0)
	expect(t, h, "", 4, 7, 7)
	write(t, h, "hijkl", 4)
	drop(t, h, 9, 4)
	expect(t, h, "", 4, 11, 11)
}

// What is asked of a hose does not change it.
func TestAskingChangesNothing(t *testing.T) {
	for place := range 5 {
		h := filled(t, 5, place, "abcd")
		for range 10 {
			h.Len()
			h.Room()
			h.Passed()
			h.Peek(1, 2)
			h.Peek(0, 9)
			h.Peek(9, 9)
			expect(t, h, "abcd", 1, place+4, place)
		}
		read(t, h, 9, "abcd")
	}
}

// P15.2: Passed over many rounds of the ring, of which it counts each byte.
func TestPassedOverManyRounds(t *testing.T) {
	for _, room := range []int{1, 2, 3, 7, 64} {
		h := start(t, room)
		in, out := 0, 0
		for round := range 1000 {
			in += h.Write([]byte(letters(1 + round%(room+1))))
			n := round % room
			if round%2 == 0 {
				out += len(h.Read(n))
			} else {
				out += h.Drop(n)
			}
			if i, o := h.Passed(); i != in || o != out {
				t.Fatalf("room %d, round %d: Passed() = %d %d, not %d %d", room, round, i, o, in, out)
			}
			if h.Len() != in-out || h.Room() != room-in+out {
				t.Fatalf("room %d, round %d: %d bytes, room for %d", room, round, h.Len(), h.Room())
			}
		}
		if room > 1 && out < 300 {
			t.Error(room, in, out)
		}
	}
}

// Passed counts bytes, also more than a hose could hold.
func TestPassedIsMoreThanTheGreatestHose(t *testing.T) {
	h := start(t, api.MaxHose)
	s := []byte(letters(api.MaxHose))
	for round := range 20 {
		if n := h.Write(s); n != len(s) {
			t.Fatal(round, n)
		}
		if n := h.Drop(math.MaxInt); n != len(s) {
			t.Fatal(round, n)
		}
		if in, out := h.Passed(); in != (round+1)<<20 || out != in {
			t.Fatal(round, in, out)
		}
	}
}
