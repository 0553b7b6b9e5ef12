package patch_test

import (
	"fmt"
	"math"
	"strings"
	"testing"

	"towrope/patch"
)

// model tells in another way than the program what a patch answers: it keeps a picture of it, and goes from byte to byte.
type model struct {
	picture string
	moved   int
}

func (m *model) put(at int, bytes string) int {
	if at > len(m.picture) { // so far that a position behind it may wrap round
		return 0
	}
	picture, kept := with(m.picture, at, bytes)
	m.picture = picture
	return kept
}

func (m *model) take(n int) string {
	s := ""
	for len(s) < n && m.picture[0] != '.' {
		s += m.picture[:1]
		m.picture = m.picture[1:] + "."
		m.moved++
	}
	return s
}

// call is one of a patch: its bytes are put at a position, and if there is no byte, n are taken.
type call struct {
	bytes string
	at    int
	n     int
}

// both are a patch and its model, and the calls of them so far.
type both struct {
	t     *testing.T
	p     *patch.Patch
	m     *model
	calls []call
}

func newBoth(t *testing.T, room int) *both {
	t.Helper()
	return &both{t: t, p: start(t, room), m: &model{picture: points(room)}}
}

// do makes a call of both, and compares the answers, and then what the patch tells of itself.
func (b *both) do(c call) {
	b.t.Helper()
	b.calls = append(b.calls, c)
	var got, want string
	if c.bytes != "" {
		got, want = fmt.Sprint(b.p.Put(c.at, []byte(c.bytes))), fmt.Sprint(b.m.put(c.at, c.bytes))
	} else {
		got, want = string(b.p.Take(c.n)), b.m.take(c.n)
	}
	if got != want {
		b.t.Fatalf("with room %d, %+v answers %v, not %v", len(b.m.picture), b.last(), got, want)
	}
	if got, want := stateOf(b.p), stateLike(b.m.picture, b.m.moved); got != want {
		b.t.Fatalf("with room %d, %+v: the patch is %+v, not %+v", len(b.m.picture), b.last(), got, want)
	}
}

// last are the last calls.
func (b *both) last() []call { return b.calls[max(0, len(b.calls)-20):] }

// use compares all bytes that are there.
func (b *both) use() {
	b.t.Helper()
	use(b.t, b.p, b.m.picture)
	if b.t.Failed() {
		b.t.Fatalf("with room %d, %+v", len(b.m.picture), b.last())
	}
}

// rows calls f with each row of n of the calls.
func rows(n int, calls []call, f func(row []call)) {
	row := make([]call, n)
	var fill func(at int)
	fill = func(at int) {
		if at == n {
			f(row)
			return
		}
		for _, c := range calls {
			row[at] = c
			fill(at + 1)
		}
	}
	fill(0)
}

// All rows of five calls, of small patches.
func TestAllRowsOfFiveCalls(t *testing.T) {
	calls := []call{
		{bytes: "a", at: 0}, {bytes: "b", at: 1}, {bytes: "cd", at: 2}, {bytes: "e", at: 4}, {bytes: "fghi", at: 1},
		{n: 1}, {n: 3},
	}
	for room := 1; room <= 6; room++ {
		rows(5, calls, func(row []call) {
			b := newBoth(t, room)
			for _, c := range row {
				b.do(c)
			}
			b.use()
		})
	}
}

// All rows of four calls, wrong ones and great numbers among them.
func TestAllRowsOfFourCalls(t *testing.T) {
	calls := []call{
		{bytes: "ab", at: 0}, {bytes: "cde", at: -1}, {bytes: "f", at: 2}, {bytes: "gh", at: 3}, {bytes: letters(9), at: -2}, {bytes: "ijkl", at: 1},
		{bytes: "mn", at: math.MinInt}, {bytes: "mn", at: math.MaxInt}, {bytes: "m", at: -1}, {bytes: "n", at: 5},
		{n: math.MinInt}, {n: 0}, {n: 1}, {n: 2}, {n: math.MaxInt},
	}
	for room := 1; room <= 5; room++ {
		rows(4, calls, func(row []call) {
			b := newBoth(t, room)
			for _, c := range row {
				b.do(c)
			}
			b.use()
		})
	}
}

// chance returns numbers that follow no plain pattern, other ones for each seed.
func chance(seed uint64) func(n int) int {
	return func(n int) int {
		seed = seed*6364136223846793005 + 1442695040888963407
		return int(seed>>20&math.MaxInt32) % n
	}
}

// text is n letters of no plain pattern.
func text(next func(n int) int, n int) string {
	b := make([]byte, n)
	for i := range b {
		b[i] = 'A' + byte(next(26))
	}
	return string(b)
}

// anyCall returns a call of no plain pattern, with pieces of up to most bytes.
func anyCall(next func(n int) int, room, most int) call {
	if next(4) == 0 {
		return call{n: next(room+4) - 1}
	}
	return call{bytes: text(next, 1+next(most)), at: next(room+2*most) - most}
}

// Long runs of calls of no plain pattern, with short pieces and with long ones.
func TestRunsOfCalls(t *testing.T) {
	for seed := range uint64(200) {
		next := chance(seed)
		room := 1 + next(1<<(seed%9))
		most := 1 + next(1+room>>(seed%5))
		b := newBoth(t, room)
		for range 400 {
			b.do(anyCall(next, room, most))
		}
		b.use()
	}
}

// Runs in which most gaps stay open for long, so that there are many ranges.
func TestRunsOfCallsWithManyRanges(t *testing.T) {
	most := 0
	for seed := range uint64(20) {
		next := chance(1000 + seed)
		b := newBoth(t, 300)
		for step := range 1500 {
			c := call{bytes: text(next, 1+next(3)), at: 1 + next(303)}
			if step%3 == 2 {
				c = call{n: next(9)}
			}
			if step%50 == 49 {
				c = call{bytes: text(next, 1+next(99)), at: -next(3)}
			}
			b.do(c)
			most = max(most, strings.Count(fmt.Sprint(b.p.Spans()), " ")/2)
		}
		b.use()
	}
	if most < 40 {
		t.Error("ranges at most:", most)
	}
}
