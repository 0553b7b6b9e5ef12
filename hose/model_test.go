package hose_test

import (
	"fmt"
	"math"
	"testing"

	"towrope/hose"
)

// model tells in another way than the program what a hose answers: it keeps all bytes that ever were written, and how many of them are gone.
type model struct {
	room int
	all  string
	gone int
}

// there are the bytes that are not gone.
func (m *model) there() string { return m.all[m.gone:] }

func (m *model) write(s string) int {
	n := 0
	for n < len(s) && len(m.there()) < m.room {
		m.all += s[n : n+1]
		n++
	}
	return n
}

func (m *model) peek(at, n int) string {
	var b []byte
	for i, c := range []byte(m.there()) {
		if at >= 0 && i >= at && len(b) < n {
			b = append(b, c)
		}
	}
	return string(b)
}

func (m *model) read(n int) string {
	s := m.peek(0, n)
	m.gone += len(s)
	return s
}

// call is one of a hose: its name, and its arguments.
type call struct {
	name  string
	bytes string
	at, n int
}

// both are a hose and its model, and the calls of them so far.
type both struct {
	t     *testing.T
	h     *hose.Hose
	m     *model
	calls []call
}

func newBoth(t *testing.T, room int) *both {
	t.Helper()
	return &both{t: t, h: start(t, room), m: &model{room: room}, calls: []call{{name: "New", n: room}}}
}

// fail tells the calls, and what differs.
func (b *both) fail(got, want any) {
	b.t.Helper()
	b.t.Fatalf("%+v answers %v, not %v", b.calls[max(0, len(b.calls)-20):], got, want)
}

// do makes a call of both, and compares the answers, and then what the hose tells of itself.
func (b *both) do(c call) {
	b.t.Helper()
	b.calls = append(b.calls, c)
	var got, want string
	switch c.name {
	case "Write":
		got, want = fmt.Sprint(b.h.Write([]byte(c.bytes))), fmt.Sprint(b.m.write(c.bytes))
	case "Read":
		got, want = string(b.h.Read(c.n)), b.m.read(c.n)
	case "Peek":
		got, want = string(b.h.Peek(c.at, c.n)), b.m.peek(c.at, c.n)
	case "Drop":
		got, want = fmt.Sprint(b.h.Drop(c.n)), fmt.Sprint(len(b.m.read(c.n)))
	default:
		b.t.Fatal("no call:", c)
	}
	if got != want {
		b.fail(got, want)
	}
	in, out := b.h.Passed()
	got = fmt.Sprint(b.h.Len(), b.h.Room(), in, out)
	there := len(b.m.there())
	if want := fmt.Sprint(there, b.m.room-there, len(b.m.all), b.m.gone); got != want {
		b.fail(got, want)
	}
}

// check compares all bytes that are there.
func (b *both) check() {
	b.t.Helper()
	if got, want := string(b.h.Peek(0, math.MaxInt)), b.m.there(); got != want {
		b.fail(got, want)
	}
}

// rows calls f with each row of n of the calls.
func rows(n int, calls []call, f func(row []call)) {
	row := make([]call, n)
	var fill func(at int)
	fill = func(at int) {
		if at == n {
			f(row)
			return
		}
		for _, c := range calls {
			row[at] = c
			fill(at + 1)
		}
	}
	fill(0)
}

// All rows of five calls, of hoses that soon are full.
func TestAllRowsOfFiveCalls(t *testing.T) {
	calls := []call{
		{name: "Write", bytes: "a"}, {name: "Write", bytes: "bc"}, {name: "Write", bytes: "defg"},
		{name: "Read", n: 1}, {name: "Read", n: 2}, {name: "Drop", n: 1}, {name: "Drop", n: 3},
	}
	for room := 1; room <= 5; room++ {
		rows(5, calls, func(row []call) {
			b := newBoth(t, room)
			for _, c := range row {
				b.do(c)
			}
			b.check()
		})
	}
}

// All rows of four calls, wrong ones and great numbers among them.
func TestAllRowsOfFourCalls(t *testing.T) {
	calls := []call{
		{name: "Write"}, {name: "Write", bytes: "ab"}, {name: "Write", bytes: "cdefghij"},
		{name: "Read", n: math.MinInt}, {name: "Read", n: 0}, {name: "Read", n: 1}, {name: "Read", n: 3}, {name: "Read", n: math.MaxInt},
		{name: "Drop", n: math.MinInt}, {name: "Drop", n: -1}, {name: "Drop", n: 2}, {name: "Drop", n: math.MaxInt},
		{name: "Peek", at: 0, n: 2}, {name: "Peek", at: 1, n: math.MaxInt}, {name: "Peek", at: math.MaxInt, n: math.MaxInt}, {name: "Peek", at: -1, n: 3}, {name: "Peek", at: 2, n: -1},
	}
	for room := 1; room <= 4; room++ {
		rows(4, calls, func(row []call) {
			b := newBoth(t, room)
			for _, c := range row {
				b.do(c)
				b.check()
			}
			b.do(call{name: "Read", n: room})
		})
	}
}

// chance returns numbers that follow no plain pattern, other ones for each seed.
func chance(seed uint64) func(n int) int {
	return func(n int) int {
		seed = seed*6364136223846793005 + 1442695040888963407
		return int(seed>>20&math.MaxInt32) % n
	}
}

// text is n bytes of no plain pattern.
func text(next func(n int) int, n int) string {
	b := make([]byte, n)
	for i := range b {
		b[i] = byte(next(256))
	}
	return string(b)
}

// anyCall returns a call of no plain pattern, with numbers up to some more than room.
func anyCall(next func(n int) int, room int) call {
	n := next(room+4) - 1
	switch next(6) {
	case 0, 1:
		return call{name: "Write", bytes: text(next, n+1)}
	case 2:
		return call{name: "Read", n: n}
	case 3:
		return call{name: "Drop", n: n}
	}
	return call{name: "Peek", at: next(room+4) - 1, n: n}
}

// Long runs of calls of no plain pattern.
func TestRunsOfCalls(t *testing.T) {
	for seed := range uint64(200) {
		next := chance(seed)
		room := 1 + next(1<<(seed%8))
		b := newBoth(t, room)
		for range 600 {
			b.do(anyCall(next, room))
			if next(8) == 0 {
				b.check()
			}
		}
		b.do(call{name: "Read", n: room})
		b.check()
	}
}
