package patch_test

import (
	"slices"
	"strings"
	"testing"

	"towrope/patch"
)

// spoil writes over all of a slice, its unused capacity included.
func spoil(b []byte) {
	b = b[:cap(b)]
	for i := range b {
		b[i] = '#'
	}
}

// spoilSpans does so with ranges.
func spoilSpans(l [][2]int) {
	l = l[:cap(l)]
	for i := range l {
		l[i] = [2]int{-7, -8}
	}
}

// What Take returns may be written over: the patch stays as it is, and so does what it returned before or returns later.
func TestBytesTakenAreNewMemory(t *testing.T) {
	for _, room := range []int{2, 3, 8, 100} {
		for moved := range room + 1 {
			for n := 1; n < room; n += 1 + room/10 {
				p := filled(t, moved, letters(room))
				first := p.Take(n)
				second := p.Take(room)
				spoil(first)
				if string(second) != letters(room)[n:] {
					t.Fatalf("room %d, %d moved: a Take shares with an earlier one: %q", room, moved, second)
				}
				expect(t, p, points(room), moved+room)
				put(t, p, 0, strings.ToUpper(letters(room)), room, letters(room))
				if string(second) != letters(room)[n:] {
					t.Fatalf("room %d, %d moved: a Take shares with the patch: %q", room, moved, second)
				}
				spoil(second)
				use(t, p, strings.ToUpper(letters(room)))
			}
		}
	}
}

// Take makes no more memory than it answers, and so none that shows bytes which were not asked for.
func TestTakeMakesWhatItAnswers(t *testing.T) {
	for n := 1; n < 110; n++ {
		p := filled(t, 70, letters(100))
		if b := p.Take(n); cap(b) != len(b) {
			t.Errorf("Take(%d): a capacity of %d", n, cap(b))
		}
	}
}

// What Spans returns may be written over.
func TestSpansAreNewMemory(t *testing.T) {
	for _, picture := range []string{"ab......", "..cd....", "a.c.e.gh", "abcdefgh"} {
		for moved := range 9 {
			p := filled(t, moved, picture)
			first, second := p.Spans(), p.Spans()
			was := slices.Clone(second)
			spoilSpans(first)
			if !slices.Equal(second, was) {
				t.Fatalf("with %q, a Spans shares with an earlier one: %v", picture, second)
			}
			expect(t, p, picture, moved)
			spoilSpans(second)
			// What happens to the patch does not show in what was returned, and the other way round.
			third := p.Spans()
			p.Put(5, []byte("X"))
			p.Take(1)
			p.Put(3, []byte("YZ"))
			if !slices.Equal(third, was) {
				t.Fatalf("with %q, Spans shares with the patch: %v", picture, third)
			}
			now := stateOf(p)
			spoilSpans(third)
			if got := stateOf(p); got != now {
				t.Fatalf("with %q, the patch became %+v, was %+v", picture, got, now)
			}
		}
	}
}

// Results that are had side by side share nothing with one another.
func TestResultsShareNothing(t *testing.T) {
	a, b := start(t, 10), start(t, 10)
	var had, want [][]byte
	var spans, same [][][2]int
	for round := range 12 {
		for _, p := range []*patch.Patch{a, b} {
			p.Put(0, []byte(letters(26)[round:][:4]))
			p.Put(7, []byte("xy"))
			spans = append(spans, p.Spans())
			same = append(same, slices.Clone(p.Spans()))
			for range 2 {
				l := p.Take(2)
				had = append(had, l)
				want = append(want, slices.Clone(l))
			}
		}
	}
	was := stateOf(a)
	for i := range had {
		if len(had[i]) == 0 || string(had[i]) != string(want[i]) {
			t.Errorf("bytes %d became %q, were %q", i, had[i], want[i])
		}
		spoil(had[i])
	}
	for i := range spans {
		if len(spans[i]) == 0 || !slices.Equal(spans[i], same[i]) {
			t.Errorf("ranges %d became %v, were %v", i, spans[i], same[i])
		}
		spoilSpans(spans[i])
	}
	if stateOf(a) != was || stateOf(b) != was || was.len == 0 {
		t.Errorf("the patches were %+v, and became %+v and %+v", was, stateOf(a), stateOf(b))
	}
}

// The bytes of Put are neither changed nor kept, nor is what lies around them in memory.
func TestArgumentOfPutIsLeftAlone(t *testing.T) {
	for _, picture := range []string{"........", "..cd..g.", "abc.....", "a.c.e.g."} {
		for moved := range 9 {
			for at := -3; at < 10; at++ {
				for n := range 12 {
					memory := []byte(strings.ToUpper(letters(20)))
					b := memory[4 : 4+n]
					p := filled(t, moved, picture)
					want, kept := with(picture, at, string(b))
					if got := p.Put(at, b); got != kept || string(memory) != strings.ToUpper(letters(20)) {
						t.Fatalf("Put(%d) = %d, not %d, of %q", at, got, kept, memory)
					}
					spoil(memory)
					use(t, p, want) // with bytes that it did not keep
					p.Put(0, []byte("other bytes"))
					if string(memory) != strings.Repeat("#", 20) {
						t.Fatalf("a later Put changed %q", memory)
					}
				}
			}
		}
	}
}

// What was taken may be put again, into the same patch and into another.
func TestResultIsPutAgain(t *testing.T) {
	a, b := start(t, 5), start(t, 5)
	text := "abcde"
	put(t, a, 0, text, 5, text)
	for range 30 {
		got := a.Take(3)
		if n := b.Put(1, got); n != 3 {
			t.Fatal(n)
		}
		if n := a.Put(2, got); n != 3 {
			t.Fatal(n)
		}
		spoil(got)
		put(t, b, 0, "-", 1, "-"+text[:3]+".")
		take(t, b, 9, "-"+text[:3], ".....")
		text = text[3:] + text[:3]
		expect(t, a, text, b.Moved()/4*3)
	}
	use(t, a, text)
}

// The same calls are answered alike.
func TestSameCallsSameAnswers(t *testing.T) {
	var first []byte
	for round := range 5 {
		next := chance(5)
		p := start(t, 50)
		var all []byte
		for range 2000 {
			all = append(all, byte(p.Put(next(60)-5, []byte(text(next, next(9))))), byte(p.Ready()), byte(p.Len()))
			all = append(all, p.Take(next(30))...)
			for _, r := range p.Spans() {
				all = append(all, byte(r[0]), byte(r[1]))
			}
		}
		if round == 0 {
			first = all
		}
		if !slices.Equal(all, first) {
			t.Fatal("round", round)
		}
	}
}
