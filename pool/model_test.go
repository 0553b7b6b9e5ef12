package pool_test

import (
	"fmt"
	"math"
	"slices"
	"testing"

	"towrope/api"
	"towrope/pool"
)

// model tells in another way than the program what a pool answers: it has all buffers in one list, each with the moment at which it became free, and searches the list each time.
type model struct {
	list   []record
	moment int
}

// record is a buffer of a model: one with a moment of 0 is out.
type record struct{ group, id, size, since int }

// find is the index of a buffer, or -1.
func (m *model) find(group, id int) int {
	return slices.IndexFunc(m.list, func(r record) bool { return r.group == group && r.id == id })
}

// first is the index of the buffer of a group that is free since the earliest moment, or -1.
func (m *model) first(group int) int {
	first := -1
	for i, r := range m.list {
		if r.group == group && r.since > 0 && (first < 0 || r.since < m.list[first].since) {
			first = i
		}
	}
	return first
}

// count is how many buffers of a group there are, and how many of them are out.
func (m *model) count(group int) (all, out int) {
	for _, r := range m.list {
		if r.group == group {
			all++
		}
		if r.group == group && r.since == 0 {
			out++
		}
	}
	return all, out
}

func (m *model) provide(group, first, count, size int) api.Errno {
	if group < 0 || group > 15 || count < 1 || count > 1024 || size < 1 || size > 65536 || first < 0 || first+count > 65536 {
		return api.ErrArg
	}
	for id := first; id < first+count; id++ {
		if m.find(group, id) >= 0 {
			return api.ErrSame
		}
	}
	if all, _ := m.count(group); all+count > 1024 {
		return api.ErrFull
	}
	for id := first; id < first+count; id++ {
		m.moment++
		m.list = append(m.list, record{group, id, size, m.moment})
	}
	return api.OK
}

func (m *model) take(group int) (id, size int, e api.Errno) {
	if group < 0 || group > 15 {
		return 0, 0, api.ErrArg
	}
	i := m.first(group)
	if i < 0 {
		return 0, 0, api.ErrNone
	}
	m.list[i].since = 0
	return m.list[i].id, m.list[i].size, api.OK
}

func (m *model) give(group, id int) api.Errno {
	if group < 0 || group > 15 {
		return api.ErrArg
	}
	i := m.find(group, id)
	if i < 0 || m.list[i].since > 0 {
		return api.ErrNone
	}
	m.moment++
	m.list[i].since = m.moment
	return api.OK
}

func (m *model) remove(group, n int) (int, api.Errno) {
	if group < 0 || group > 15 || n < 0 {
		return 0, api.ErrArg
	}
	for removed := range n {
		i := m.first(group)
		if i < 0 {
			return removed, api.OK
		}
		m.list = slices.Delete(m.list, i, i+1)
	}
	return n, api.OK
}

func (m *model) state(group, id int) int {
	switch i := m.find(group, id); {
	case i < 0:
		return 0
	case m.list[i].since > 0:
		return 1
	}
	return 2
}

func (m *model) free(group int) []int {
	all := slices.Clone(m.list)
	slices.SortFunc(all, func(a, b record) int { return a.since - b.since })
	var l []int
	for _, r := range all {
		if r.group == group && r.since > 0 {
			l = append(l, r.id)
		}
	}
	return l
}

// call is one of a pool: its name, its group and its other arguments.
type call struct {
	name    string
	group   int
	a, b, c int
}

// both are a pool and its model, and the calls of them so far.
type both struct {
	t     *testing.T
	p     *pool.Pool
	m     *model
	calls []call
}

func newBoth(t *testing.T) *both { return &both{t: t, p: pool.New(), m: &model{}} }

// fail tells the calls, and what differs.
func (b *both) fail(got, want any) {
	b.t.Helper()
	b.t.Fatal(b.calls[max(0, len(b.calls)-20):], "answers", got, "not", want)
}

// answer is what a call returns: two numbers and an error.
type answer struct {
	a, b int
	e    api.Errno
}

// ofPool makes a call of the pool.
func (b *both) ofPool(c call) (r answer) {
	switch c.name {
	case "Provide":
		r.e = b.p.Provide(c.group, c.a, c.b, c.c)
	case "Take":
		r.a, r.b, r.e = b.p.Take(c.group)
	case "Give":
		r.e = b.p.Give(c.group, c.a)
	case "Remove":
		r.a, r.e = b.p.Remove(c.group, c.a)
	default:
		b.t.Fatal("no call:", c)
	}
	return r
}

// ofModel makes a call of the model.
func (b *both) ofModel(c call) (r answer) {
	switch c.name {
	case "Provide":
		r.e = b.m.provide(c.group, c.a, c.b, c.c)
	case "Take":
		r.a, r.b, r.e = b.m.take(c.group)
	case "Give":
		r.e = b.m.give(c.group, c.a)
	default:
		r.a, r.e = b.m.remove(c.group, c.a)
	}
	return r
}

// do makes a call of both, and compares the answers.
func (b *both) do(c call) answer {
	b.t.Helper()
	b.calls = append(b.calls, c)
	got, want := b.ofPool(c), b.ofModel(c)
	if got != want {
		b.fail(got, want)
	}
	return got
}

// check compares what the pool tells of some groups and some numbers.
func (b *both) check(groups, ids []int) {
	b.t.Helper()
	for _, group := range groups {
		if got, want := b.p.Free(group), b.m.free(group); !slices.Equal(got, want) {
			b.fail(fmt.Sprint("Free", group, got), want)
		}
		if _, want := b.m.count(group); b.p.Out(group) != want {
			b.fail(fmt.Sprint("Out", group, b.p.Out(group)), want)
		}
		for _, id := range ids {
			if got, want := b.p.State(group, id), b.m.state(group, id); got != want {
				b.fail(fmt.Sprint("State", group, id, got), want)
			}
		}
	}
}

// rows calls f with each row of n of the calls.
func rows(n int, calls []call, f func(row []call)) {
	row := make([]call, n)
	var fill func(at int)
	fill = func(at int) {
		if at == n {
			f(row)
			return
		}
		for _, c := range calls {
			row[at] = c
			fill(at + 1)
		}
	}
	fill(0)
}

// All rows of five calls, of a group with few numbers and of another one.
func TestAllRowsOfFiveCalls(t *testing.T) {
	calls := []call{
		{"Provide", 1, 5, 1, 10}, {"Provide", 1, 6, 1, 20}, {"Provide", 1, 5, 2, 30}, {"Provide", 2, 5, 2, 40},
		{"Take", 1, 0, 0, 0}, {"Take", 2, 0, 0, 0},
		{"Give", 1, 5, 0, 0}, {"Give", 1, 6, 0, 0}, {"Give", 2, 5, 0, 0},
		{"Remove", 1, 1, 0, 0}, {"Remove", 2, 2, 0, 0},
	}
	rows(5, calls, func(row []call) {
		b := newBoth(t)
		for _, c := range row {
			b.do(c)
		}
		b.check([]int{1, 2}, []int{4, 5, 6, 7})
		b.do(call{"Take", 1, 0, 0, 0})
		b.do(call{"Take", 1, 0, 0, 0})
	})
}

// All rows of six calls behind a provision of three and one that is out.
func TestAllRowsOfSixCallsBehindAProvision(t *testing.T) {
	calls := []call{
		{"Provide", 1, 3, 1, 10}, {"Take", 1, 0, 0, 0}, {"Give", 1, 0, 0, 0}, {"Give", 1, 1, 0, 0}, {"Give", 1, 3, 0, 0}, {"Remove", 1, 1, 0, 0},
	}
	rows(6, calls, func(row []call) {
		b := newBoth(t)
		b.do(call{"Provide", 1, 0, 3, 7})
		b.do(call{"Take", 1, 0, 0, 0})
		for _, c := range row {
			b.do(c)
		}
		b.check([]int{1}, []int{0, 1, 2, 3})
		for range 5 {
			b.do(call{"Take", 1, 0, 0, 0})
		}
	})
}

// All rows of four calls, wrong ones and great numbers among them.
func TestAllRowsOfFourCalls(t *testing.T) {
	calls := []call{
		{"Provide", 0, 0, 1, 1}, {"Provide", 0, 0, 1024, 65536}, {"Provide", 0, 64512, 1024, 1}, {"Provide", 0, 65535, 1, 9}, {"Provide", 0, 65535, 2, 9}, {"Provide", 16, 0, 1, 1}, {"Provide", 0, math.MinInt, 1, 1},
		{"Take", 0, 0, 0, 0}, {"Take", -1, 0, 0, 0}, {"Take", 15, 0, 0, 0},
		{"Give", 0, 0, 0, 0}, {"Give", 0, 65535, 0, 0}, {"Give", 0, 64512, 0, 0}, {"Give", 16, 0, 0, 0},
		{"Remove", 0, 0, 0, 0}, {"Remove", 0, math.MaxInt, 0, 0}, {"Remove", 0, 1, 0, 0}, {"Remove", 0, -1, 0, 0},
	}
	// The model searches its list each time, so that rows with great provisions are slow: the more of them a row has, the fewer such rows are tried.
	no := 0
	rows(4, calls, func(row []call) {
		great := 0
		for _, c := range row {
			great += c.b / 1024
		}
		no++
		if great > 0 && no%(10*great+1) != 0 {
			return
		}
		b := newBoth(t)
		for _, c := range row {
			b.do(c)
		}
		b.check([]int{-1, 0, 15, 16}, []int{-1, 0, 1, 64512, 65535, 65536})
	})
}

// chance returns numbers that follow no plain pattern, other ones for each seed.
func chance(seed uint64) func(n int) int {
	return func(n int) int {
		seed = seed*6364136223846793005 + 1442695040888963407
		return int(seed>>20&math.MaxInt32) % n
	}
}

// anyCall returns a call of no plain pattern, with one of some groups and some numbers.
func anyCall(next func(n int) int, groups, ids int) call {
	group := next(groups)
	switch next(12) {
	case 0:
		return call{"Remove", group, next(1 + ids/8), 0, 0}
	case 1, 2:
		return call{"Provide", group, next(ids), 1 + next(1+ids/4), 1 + next(65536)}
	case 3, 4:
		return call{"Provide", group, next(ids), 1, 1 + next(65536)}
	case 5, 6, 7, 8:
		return call{"Take", group, 0, 0, 0}
	}
	return call{"Give", group, next(ids), 0, 0}
}

// Long runs of calls of no plain pattern, with few numbers and many, in one group and in several.
func TestRunsOfCalls(t *testing.T) {
	for seed := range uint64(60) {
		next := chance(seed)
		ids := 1 << (1 + seed%7)
		groups := 1 + int(seed%4)
		b := newBoth(t)
		for range 1000 {
			b.do(anyCall(next, groups, ids))
			b.check([]int{next(groups)}, []int{next(ids), next(ids)})
		}
		b.check(series(0, groups), series(0, 2*ids))
	}
}

// All of a group in a long run: it is full again and again, and empty again and again.
func TestRunsOfCallsOfAFullGroup(t *testing.T) {
	for seed := range uint64(4) {
		next := chance(seed)
		b := newBoth(t)
		full := 0
		for step := range 1500 {
			switch k := next(20); {
			case k < 10:
				if b.do(call{"Provide", 3, next(3000), 1 + next(200), 1 + next(65536)}).e == api.ErrFull {
					full++
				}
			case k < 15:
				b.do(call{"Take", 3, 0, 0, 0})
			case k < 18:
				b.do(call{"Give", 3, next(3000), 0, 0})
			case k < 19:
				b.do(call{"Remove", 3, next(400), 0, 0})
			}
			if step%50 == 0 {
				b.check([]int{3}, []int{next(3000), next(3000), next(3000)})
			}
		}
		if full == 0 {
			t.Error("the group never was full")
		}
	}
}
