package agenda_test

import (
	"cmp"
	"fmt"
	"math"
	"slices"
	"testing"

	"towrope/agenda"
	"towrope/api"
)

// model tells in another way than the program what an agenda answers: it has its items in one list, in the order in which they were pushed, and sorts all of them each time.
type model struct {
	most  int
	items []api.Item
}

// find is the index of an item, or -1.
func (m *model) find(id int) int {
	return slices.IndexFunc(m.items, func(x api.Item) bool { return x.ID == id })
}

func (m *model) push(x api.Item) api.Errno {
	switch {
	case m.find(x.ID) >= 0:
		return api.ErrSame
	case len(m.items) == m.most:
		return api.ErrFull
	}
	m.items = append(m.items, x)
	return api.OK
}

func (m *model) move(x api.Item) api.Errno {
	no := m.find(x.ID)
	if no < 0 {
		return api.ErrNone
	}
	m.items[no] = x
	return api.OK
}

func (m *model) drop(id int) bool {
	no := m.find(id)
	if no >= 0 {
		m.items = slices.Delete(m.items, no, no+1)
	}
	return no >= 0
}

func (m *model) pop(now int) []api.Item {
	due := slices.DeleteFunc(m.all(), func(x api.Item) bool { return x.At > now })
	m.items = slices.DeleteFunc(m.items, func(x api.Item) bool { return x.At <= now })
	return due
}

// all are the items, sorted by one after the other of what counts less.
func (m *model) all() []api.Item {
	l := slices.Clone(m.items)
	slices.SortStableFunc(l, func(a, b api.Item) int { return cmp.Compare(a.Rank, b.Rank) })
	slices.SortStableFunc(l, func(a, b api.Item) int { return cmp.Compare(a.At, b.At) })
	return l
}

// call is one of an agenda: its name, and its arguments, of which the At is Pop's now.
type call struct {
	name string
	x    api.Item
}

// both are an agenda and its model, and the calls of them so far.
type both struct {
	t     *testing.T
	a     *agenda.Agenda
	m     *model
	calls []call
}

func newBoth(t *testing.T, most int) *both {
	t.Helper()
	return &both{t: t, a: start(t, most), m: &model{most: most}, calls: []call{{"New", item(most, 0, 0)}}}
}

// fail tells the calls, and what differs.
func (b *both) fail(got, want any) {
	b.t.Helper()
	b.t.Fatal(b.calls[max(0, len(b.calls)-20):], "answers", got, "not", want)
}

// do makes a call of both, and compares the answers and then the number of items and the first one.
func (b *both) do(c call) []api.Item {
	b.t.Helper()
	b.calls = append(b.calls, c)
	var popped []api.Item
	var got, want string
	switch c.name {
	case "Push":
		got, want = fmt.Sprint(int(b.a.Push(c.x))), fmt.Sprint(int(b.m.push(c.x)))
	case "Move":
		got, want = fmt.Sprint(int(b.a.Move(c.x.ID, c.x.At, c.x.Rank))), fmt.Sprint(int(b.m.move(c.x)))
	case "Drop":
		got, want = fmt.Sprint(b.a.Drop(c.x.ID)), fmt.Sprint(b.m.drop(c.x.ID))
	case "Pop":
		popped = b.a.Pop(c.x.At)
		got, want = fmt.Sprint(popped), fmt.Sprint(b.m.pop(c.x.At))
	default:
		b.t.Fatal("no call:", c)
	}
	if got != want {
		b.fail(got, want)
	}
	if got, want := b.a.Len(), len(b.m.items); got != want {
		b.fail(got, want)
	}
	return popped
}

// check compares all items, and the first one.
func (b *both) check() {
	b.t.Helper()
	want := b.m.all()
	if got := b.a.All(); !slices.Equal(got, want) {
		b.fail(got, want)
	}
	want = append(want, api.Item{})
	if got, ok := b.a.Top(); got != want[0] || ok != (len(want) > 1) {
		b.fail(fmt.Sprint(got, ok), want[0])
	}
}

// rows calls f with each row of n of the calls.
func rows(n int, calls []call, f func(row []call)) {
	row := make([]call, n)
	var fill func(at int)
	fill = func(at int) {
		if at == n {
			f(row)
			return
		}
		for _, c := range calls {
			row[at] = c
			fill(at + 1)
		}
	}
	fill(0)
}

// All rows of five calls, with items that are or come to be equal.
func TestAllRowsOfFiveCalls(t *testing.T) {
	calls := []call{
		{"Push", item(1, 5, 0)}, {"Push", item(2, 5, 0)}, {"Push", item(3, 4, 1)},
		{"Move", item(1, 5, 0)}, {"Move", item(1, 6, 0)}, {"Move", item(3, 5, 0)}, {"Move", item(2, 4, 0)},
		{"Drop", item(1, 0, 0)}, {"Drop", item(2, 0, 0)},
		{"Pop", item(0, 4, 0)}, {"Pop", item(0, 5, 0)},
	}
	rows(5, calls, func(row []call) {
		b := newBoth(t, 3)
		for _, c := range row {
			b.do(c)
		}
		b.check()
		b.do(call{"Pop", item(0, 5, 0)})
		b.check()
	})
}

// All rows of five calls behind four pushes, all items being there.
func TestAllRowsBehindPushes(t *testing.T) {
	calls := []call{
		{"Push", item(1, 5, 0)}, {"Move", item(1, 7, 0)}, {"Move", item(2, 5, 0)}, {"Move", item(4, 3, 9)}, {"Drop", item(1, 0, 0)}, {"Drop", item(3, 0, 0)}, {"Pop", item(0, 5, 0)},
	}
	rows(5, calls, func(row []call) {
		b := newBoth(t, 4)
		for _, x := range []api.Item{item(2, 6, 1), item(1, 5, 0), item(4, 5, 0), item(3, 5, 0)} {
			b.do(call{"Push", x})
		}
		for _, c := range row {
			b.do(c)
			b.check()
		}
		b.do(call{"Pop", item(0, 9, 0)})
	})
}

// All rows of four calls of an agenda that soon is full, wrong ones and great numbers among them.
func TestAllRowsOfFourCalls(t *testing.T) {
	calls := []call{
		{"Push", item(1, 0, 0)}, {"Push", item(1, math.MaxInt, 0)}, {"Push", item(2, math.MinInt, 1)}, {"Push", item(2, 0, -1)}, {"Push", item(math.MinInt, 0, math.MinInt)}, {"Push", item(math.MaxInt, 0, math.MaxInt)},
		{"Move", item(1, math.MinInt, 0)}, {"Move", item(2, 0, 0)}, {"Move", item(math.MinInt, 1, 0)}, {"Move", item(3, 0, 0)},
		{"Drop", item(1, 0, 0)}, {"Drop", item(2, 0, 0)}, {"Drop", item(math.MaxInt, 0, 0)}, {"Drop", item(0, 0, 0)},
		{"Pop", item(0, math.MinInt, 0)}, {"Pop", item(0, -1, 0)}, {"Pop", item(0, 0, 0)}, {"Pop", item(0, math.MaxInt, 0)},
	}
	for _, most := range []int{1, 2} {
		rows(4, calls, func(row []call) {
			b := newBoth(t, most)
			for _, c := range row {
				b.do(c)
				b.check()
			}
			b.do(call{"Pop", item(0, math.MaxInt, 0)})
		})
	}
}

// chance returns numbers that follow no plain pattern, other ones for each seed.
func chance(seed uint64) func(n int) int {
	return func(n int) int {
		seed = seed*6364136223846793005 + 1442695040888963407
		return int(seed>>20&math.MaxInt32) % n
	}
}

// anyCall returns a call of no plain pattern, with one of some IDs, and an At of a range from now on.
func anyCall(next func(n int) int, ids, now, span int) call {
	x := item(next(ids), now+next(span), next(3)-1)
	switch next(10) {
	case 0:
		return call{"Drop", x}
	case 1:
		return call{"Pop", item(0, now, 0)}
	case 2, 3, 4:
		return call{"Move", x}
	}
	return call{"Push", x}
}

// Long runs of calls of no plain pattern, with few items and many, near one another and far apart.
func TestRunsOfCalls(t *testing.T) {
	for seed := range uint64(80) {
		next := chance(seed)
		ids := 1 << (1 + seed%8)
		span := 1 << (seed % 13)
		b := newBoth(t, 1+ids*3/4)
		for now := range 1500 {
			b.do(anyCall(next, ids, now*span/ids/2, span))
			b.check()
		}
		b.do(call{"Pop", item(0, math.MaxInt, 0)})
		b.check()
	}
}

// An agenda that is full, with more calls.
func TestRunsOfCallsOfAFullAgenda(t *testing.T) {
	for seed := range uint64(3) {
		next := chance(seed)
		b := newBoth(t, 4096)
		for id := range 4096 {
			b.do(call{"Push", item(id, next(300)+1, next(3))})
		}
		b.check()
		for i := range 1500 {
			c := anyCall(next, 4200, i/300, 300)
			b.do(c)
			if i%50 == 0 {
				b.check()
			}
		}
		b.check()
		b.do(call{"Pop", item(0, 200, 0)})
		b.do(call{"Pop", item(0, 1000, 0)})
		b.check()
	}
}
