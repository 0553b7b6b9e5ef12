package hose_test

import (
	"slices"
	"testing"

	"towrope/hose"
)

// spoil writes over all of a slice, its unused capacity included.
func spoil(b []byte) {
	b = b[:cap(b)]
	for i := range b {
		b[i] = '#'
	}
}

// answers are a Peek and a Read of a hose, each of n bytes.
func answers(h *hose.Hose, n int) [][]byte { return [][]byte{h.Peek(0, n), h.Peek(1, n), h.Read(n)} }

// What Peek and Read return may be written over: the hose stays as it is, and so does what it returned before or returns later.
func TestResultsAreNewMemory(t *testing.T) {
	for _, room := range []int{1, 2, 3, 8, 100} {
		for place := range room + 1 {
			for n := 1; n <= room; n += 1 + room/10 {
				h := filled(t, room, place, letters(room))
				first := h.Peek(0, n)
				second := h.Peek(0, n)
				spoil(first)
				if string(second) != letters(n) {
					t.Fatalf("room %d, place %d: a Peek shares with an earlier one: %q", room, place, second)
				}
				expect(t, h, letters(room), 0, place+room, place)
				third := h.Read(n)
				spoil(second)
				if string(third) != letters(n) {
					t.Fatalf("room %d, place %d: a Read shares with a Peek: %q", room, place, third)
				}
				left := letters(room)[n:]
				expect(t, h, left, n, place+room, place+n)
				// What happens to the hose does not show in what was returned, and the other way round.
				write(t, h, letters(26), min(26, n))
				if string(third) != letters(n) {
					t.Fatalf("room %d, place %d: a Read shares with the hose: %q", room, place, third)
				}
				spoil(third)
				left += letters(min(26, n))
				expect(t, h, left, room-len(left), place+room+min(26, n), place+n)
				read(t, h, room, left)
			}
		}
	}
}

// Results that are had side by side share nothing with one another.
func TestResultsShareNothing(t *testing.T) {
	a, b := start(t, 10), start(t, 10)
	var had, want [][]byte
	for round := range 12 {
		for _, h := range []*hose.Hose{a, b} {
			h.Write([]byte(letters(26)[round:][:4]))
			for _, l := range answers(h, 3) {
				had = append(had, l)
				want = append(want, slices.Clone(l))
			}
		}
	}
	was := stateOf(t, a)
	for i := range had {
		if string(had[i]) != string(want[i]) {
			t.Errorf("result %d became %q, was %q", i, had[i], want[i])
		}
		spoil(had[i])
	}
	if stateOf(t, a) != was || stateOf(t, b) != was || was.bytes == "" {
		t.Errorf("the hoses were %+v, and became %+v and %+v", was, stateOf(t, a), stateOf(t, b))
	}
}

// The bytes of Write are neither changed nor kept, nor is what lies behind them in memory.
func TestArgumentOfWriteIsLeftAlone(t *testing.T) {
	for _, room := range []int{1, 3, 8, 100} {
		for place := range room + 1 {
			for n := range 12 {
				memory := []byte(letters(20))
				b := memory[4 : 4+n]
				h := filled(t, room, place, "")
				wrote := h.Write(b)
				if string(memory) != letters(20) {
					t.Fatalf("Write changed %q", memory)
				}
				spoil(memory)
				expect(t, h, letters(20)[4:][:wrote], room-wrote, place+wrote, place)
				got := h.Read(room)
				if string(got) != letters(20)[4:][:wrote] {
					t.Fatalf("Write kept %q", got)
				}
				spoil(got)
				h.Write([]byte("other bytes"))
				if string(memory) != "####################" {
					t.Fatalf("a later Write changed %q", memory)
				}
			}
		}
	}
}

// What was returned may be written again, into the same hose and into another.
func TestResultIsWrittenAgain(t *testing.T) {
	a, b := start(t, 5), start(t, 5)
	want := "abcde"
	write(t, a, want, 5)
	for range 30 {
		got := a.Read(3)
		if n := b.Write(got); n != 3 {
			t.Fatal(n)
		}
		if n := a.Write(got); n != 3 {
			t.Fatal(n)
		}
		spoil(got)
		read(t, b, 5, want[:3])
		want = want[3:] + want[:3]
		peek(t, a, 0, 9, want)
	}
	expect(t, a, want, 0, 95, 90)
}

// The same calls are answered alike.
func TestSameCallsSameAnswers(t *testing.T) {
	var first []byte
	for round := range 5 {
		next := chance(5)
		h := start(t, 50)
		var all []byte
		for range 2000 {
			all = append(all, byte(h.Write([]byte(text(next, next(60))))), byte(h.Drop(next(10))))
			all = append(all, h.Peek(next(50), next(50))...)
			all = append(all, h.Read(next(30))...)
		}
		if round == 0 {
			first = all
		}
		if !slices.Equal(all, first) {
			t.Fatal("round", round)
		}
	}
}
