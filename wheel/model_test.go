package wheel_test

import (
	"cmp"
	"fmt"
	"math"
	"slices"
	"testing"

	"towrope/api"
	"towrope/wheel"
)

// model tells in another way than the program what a wheel answers: it has its timers in one list, in the order in which they were set, and goes through all of them each time.
type model struct {
	now    int
	timers []timer
}

type timer struct{ id, at int }

// find is the index of a timer, or -1.
func (m *model) find(id int) int {
	return slices.IndexFunc(m.timers, func(t timer) bool { return t.id == id })
}

func (m *model) set(id, at int) api.Errno {
	no := m.find(id)
	switch {
	case at < 0, at > 1<<40:
		return api.ErrRange
	case no < 0 && len(m.timers) == 4096:
		return api.ErrFull
	case no >= 0:
		m.timers = slices.Delete(m.timers, no, no+1)
	}
	m.timers = append(m.timers, timer{id, at})
	return api.OK
}

func (m *model) stop(id int) bool {
	no := m.find(id)
	if no >= 0 {
		m.timers = slices.Delete(m.timers, no, no+1)
	}
	return no >= 0
}

func (m *model) tick(now int) ([]int, api.Errno) {
	if now < m.now || now > 1<<40 {
		return nil, api.ErrRange
	}
	m.now = now
	var gone, left []timer
	for _, t := range m.timers {
		if t.at <= now {
			gone = append(gone, t)
		} else {
			left = append(left, t)
		}
	}
	m.timers = left
	slices.SortStableFunc(gone, func(a, b timer) int { return cmp.Compare(a.at, b.at) })
	var ids []int
	for _, t := range gone {
		ids = append(ids, t.id)
	}
	return ids, api.OK
}

func (m *model) state() state {
	s := state{now: m.now, n: len(m.timers)}
	for _, t := range m.timers {
		if !s.ok || t.at < s.next {
			s.next, s.ok = t.at, true
		}
	}
	return s
}

// call is one of a wheel: its name, and its arguments.
type call struct {
	name   string
	id, at int
}

// both are a wheel and its model, and the calls of them so far.
type both struct {
	t     *testing.T
	w     *wheel.Wheel
	m     *model
	calls []call
}

func newBoth(t *testing.T, now int) *both {
	t.Helper()
	return &both{t: t, w: start(t, now), m: &model{now: now}, calls: []call{{"New", 0, now}}}
}

// fail tells the calls, and what differs.
func (b *both) fail(got, want any) {
	b.t.Helper()
	b.t.Fatal(b.calls[max(0, len(b.calls)-20):], "answers", got, "not", want)
}

// do makes a call of both, and compares the answers and then the states.
func (b *both) do(c call) []int {
	b.t.Helper()
	b.calls = append(b.calls, c)
	var l []int
	switch c.name {
	case "Set":
		if got, want := b.w.Set(c.id, c.at), b.m.set(c.id, c.at); got != want {
			b.fail(int(got), int(want))
		}
	case "Stop":
		if got, want := b.w.Stop(c.id), b.m.stop(c.id); got != want {
			b.fail(got, want)
		}
	case "Tick":
		got, e := b.w.Tick(c.at)
		want, f := b.m.tick(c.at)
		if e != f || !slices.Equal(got, want) {
			b.fail(fmt.Sprint(got, int(e)), fmt.Sprint(want, int(f)))
		}
		l = got
	default:
		b.t.Fatal("no call:", c)
	}
	if got, want := stateOf(b.w), b.m.state(); got != want {
		b.fail(got, want)
	}
	return l
}

// check compares when timers are due: all that there are, and others.
func (b *both) check(others ...int) {
	b.t.Helper()
	for _, t := range b.m.timers {
		if at, ok := b.w.Due(t.id); at != t.at || !ok {
			b.fail(fmt.Sprint("Due ", t.id, " ", at, ok), t.at)
		}
	}
	for _, id := range others {
		if at, ok := b.w.Due(id); ok != (b.m.find(id) >= 0) || !ok && at != 0 {
			b.fail(fmt.Sprint("Due ", id, " ", at, ok), b.m.find(id))
		}
	}
}

// rows calls f with each row of n of the calls.
func rows(n int, calls []call, f func(row []call)) {
	row := make([]call, n)
	var fill func(at int)
	fill = func(at int) {
		if at == n {
			f(row)
			return
		}
		for _, c := range calls {
			row[at] = c
			fill(at + 1)
		}
	}
	fill(0)
}

// All rows of five calls, twice: ticks where a digit turns over, and ticks that have passed or are about to come.
func TestAllRowsOfFiveCalls(t *testing.T) {
	for now, calls := range map[int][]call{
		60: {{"Set", 1, 63}, {"Set", 1, 64}, {"Set", 2, 64}, {"Set", 2, 65}, {"Set", 3, 4096}, {"Stop", 1, 0}, {"Stop", 2, 0}, {"Tick", 0, 63}, {"Tick", 0, 64}, {"Tick", 0, 65}},
		70: {{"Set", 1, 5}, {"Set", 1, 70}, {"Set", 2, 70}, {"Set", 2, 69}, {"Set", 3, 71}, {"Set", 3, 64}, {"Stop", 1, 0}, {"Tick", 0, 70}, {"Tick", 0, 71}, {"Tick", 0, 200}},
	} {
		rows(5, calls, func(row []call) {
			b := newBoth(t, now)
			for _, c := range row {
				b.do(c)
			}
			b.check(1, 2, 3)
			b.do(call{"Tick", 0, 5000})
			b.check(1, 2, 3)
		})
	}
}

// All rows of four calls, wrong ones among them.
func TestAllRowsOfFourCalls(t *testing.T) {
	calls := []call{
		{"Set", 1, 4095}, {"Set", 1, 4096}, {"Set", 2, 4096}, {"Set", 2, 4160}, {"Set", 3, 1 << 40}, {"Set", 1, -1}, {"Set", 3, 1<<40 + 1}, {"Set", -1, 0},
		{"Stop", 1, 0}, {"Stop", 3, 0}, {"Stop", -1, 0},
		{"Tick", 0, -1}, {"Tick", 0, 4090}, {"Tick", 0, 4095}, {"Tick", 0, 4100}, {"Tick", 0, 4160}, {"Tick", 0, 1 << 40}, {"Tick", 0, 1<<40 + 1},
	}
	rows(4, calls, func(row []call) {
		b := newBoth(t, 4090)
		for _, c := range row {
			b.do(c)
			b.check(-1, 1, 2, 3)
		}
		b.do(call{"Tick", 0, 1 << 40})
	})
}

// edges are ticks near those at which digits turn over.
func edges() []int {
	l := []int{0}
	for no := range 7 {
		one := 1 << (6 * no)
		l = append(l, one-1, one, one+1, 2*one-1, 2*one, 5*one+one/2)
		if no < 6 {
			l = append(l, 63*one)
		}
	}
	l = append(l, 1<<40-4096, 1<<40-64, 1<<40-1, 1<<40)
	slices.Sort(l)
	return slices.Compact(l)
}

// From each edge, a timer for each edge, by way of each edge.
func TestFromEdgeToEdgeByWayOfEdges(t *testing.T) {
	l := edges()
	for i, now := range l {
		for _, at := range l {
			for _, by := range l[i:] {
				b := newBoth(t, now)
				b.do(call{"Set", 1, at})
				b.do(call{"Tick", 0, by})
				b.do(call{"Set", 2, at})
				b.do(call{"Set", 3, by})
				b.check(1, 2, 3)
				b.do(call{"Tick", 0, max(at, by)})
			}
		}
	}
}

// Timers for all edges at once, advanced from each edge to each other one, and some of them stopped.
func TestTimersForAllEdges(t *testing.T) {
	l := edges()
	for i, now := range l {
		for j, by := range l[i:] {
			b := newBoth(t, now)
			for no := range l {
				no = no * 17 % len(l)
				b.do(call{"Set", no, l[no]})
				b.do(call{"Set", 1000 + no, l[no]})
			}
			for no := i % 3; no < len(l); no += 3 {
				b.do(call{"Stop", no + j%2*1000, 0})
			}
			b.do(call{"Tick", 0, by})
			for no := j % 5; no < len(l); no += 5 {
				b.do(call{"Set", no, l[no]})
			}
			b.do(call{"Tick", 0, (by + 1<<40) / 2})
			b.check(0, 1, 2, 1000, 1001)
			b.do(call{"Tick", 0, 1 << 40})
		}
	}
}

// chance returns numbers that follow no plain pattern, other ones for each seed.
func chance(seed uint64) func(n int) int {
	return func(n int) int {
		seed = seed*6364136223846793005 + 1442695040888963407
		return int(seed>>20&math.MaxInt32) % n
	}
}

// distance is a number of ticks, of whichever size.
func distance(next func(n int) int) int {
	return next(1<<next(20)) << next(21)
}

// Long runs of calls of no plain pattern, with ids that often are set already, and steps of all sizes.
func TestRunsOfCalls(t *testing.T) {
	for seed := range uint64(60) {
		next := chance(seed)
		b := newBoth(t, distance(next))
		ids := 1 << (2 + seed%7)
		for range 1500 {
			now := b.w.Now()
			c := call{"Set", next(ids), now + distance(next)}
			switch next(12) {
			case 0:
				c.at = now - distance(next)
			case 1:
				c.at = now + next(3)
			case 2, 3:
				if len(b.m.timers) > 0 {
					c.at = b.m.timers[next(len(b.m.timers))].at
				}
			case 4, 5:
				c = call{"Stop", c.id, 0}
			case 6:
				c = call{"Tick", 0, now + next(70)}
			case 7:
				if at, ok := b.w.Next(); ok {
					c = call{"Tick", 0, at + next(2)}
				}
			case 8:
				if next(8) == 0 && now < 1<<39 {
					c = call{"Tick", 0, now + distance(next)/int(1+seed)}
				}
			}
			b.do(c)
		}
		b.check(0, 1, ids, -1)
		b.do(call{"Tick", 0, 1 << 40})
		b.check(0, 1, ids, -1)
	}
}

// A wheel that is full, with more calls.
func TestRunsOfCallsOfAFullWheel(t *testing.T) {
	for seed := range uint64(3) {
		next := chance(seed)
		b := newBoth(t, 0)
		for id := range 4096 {
			b.do(call{"Set", id, distance(next)})
		}
		for range 800 {
			switch next(6) {
			case 0:
				b.do(call{"Stop", next(4200), 0})
			case 1:
				b.do(call{"Tick", 0, b.w.Now() + distance(next)>>12})
			default:
				b.do(call{"Set", next(4200), b.w.Now() + distance(next)})
			}
		}
		b.check(0, 4095, 4096, 4199)
		b.do(call{"Tick", 0, 1 << 40})
	}
}
