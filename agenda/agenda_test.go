package agenda_test

import (
	"math"
	"slices"
	"testing"

	"towrope/agenda"
	"towrope/api"
)

// item is one with this ID, At and Rank.
func item(id, at, rank int) api.Item { return api.Item{ID: id, At: at, Rank: rank} }

// extremes are the least ints, the greatest ones, and some between.
func extremes() []int {
	return []int{math.MinInt, math.MinInt + 1, -1 << 40, -1 << 32, -1, 0, 1, 1 << 32, 1<<32 + 1, 1 << 40, math.MaxInt - 1, math.MaxInt}
}

// start is a new agenda.
func start(t *testing.T, most int) *agenda.Agenda {
	t.Helper()
	a, e := agenda.New(most)
	if a == nil || e != api.OK {
		t.Fatalf("New(%d): no agenda, error %d", most, int(e))
	}
	return a
}

// expect compares all that there is: what All, Len and Top answer.
func expect(t *testing.T, a *agenda.Agenda, want ...api.Item) {
	t.Helper()
	if got := a.All(); !slices.Equal(got, want) {
		t.Errorf("All() = %v, not %v", got, want)
	}
	if got := a.Len(); got != len(want) {
		t.Errorf("Len() = %d, not %d", got, len(want))
	}
	top, ok := a.Top()
	if len(want) == 0 && (top != api.Item{} || ok) {
		t.Errorf("Top() = %v %v, and there is none", top, ok)
	}
	if len(want) > 0 && (top != want[0] || !ok) {
		t.Errorf("Top() = %v %v, not %v", top, ok, want[0])
	}
}

// push adds items, one after the other: each of them is there then, once.
func push(t *testing.T, a *agenda.Agenda, items ...api.Item) {
	t.Helper()
	for _, x := range items {
		n := a.Len()
		if e := a.Push(x); e != api.OK {
			t.Errorf("Push(%v): error %d", x, int(e))
		}
		if all := a.All(); len(all) != n+1 || a.Len() != n+1 || !slices.Contains(all, x) {
			t.Errorf("after Push(%v) to %d items: %v", x, n, all)
		}
	}
}

// refuse pushes an item that may not be pushed: nothing changes.
func refuse(t *testing.T, a *agenda.Agenda, x api.Item, want api.Errno) {
	t.Helper()
	was := a.All()
	if e := a.Push(x); e != want {
		t.Errorf("Push(%v): error %d, not %d", x, int(e), int(want))
	}
	expect(t, a, was...)
}

// move moves an item that is there: it is there then as it was asked, and the others as they were, in their order.
func move(t *testing.T, a *agenda.Agenda, id, at, rank int) {
	t.Helper()
	was := a.All()
	if e := a.Move(id, at, rank); e != api.OK {
		t.Errorf("Move(%d, %d, %d): error %d", id, at, rank, int(e))
	}
	all := a.All()
	if !slices.Contains(all, item(id, at, rank)) || !slices.Equal(others(all, id), others(was, id)) {
		t.Errorf("after Move(%d, %d, %d): %v, not %v", id, at, rank, all, was)
	}
	expect(t, a, all...)
}

// others are the items but that with an ID.
func others(l []api.Item, id int) []api.Item {
	return slices.DeleteFunc(slices.Clone(l), func(x api.Item) bool { return x.ID == id })
}

// miss moves an item that is not there: nothing changes.
func miss(t *testing.T, a *agenda.Agenda, id, at, rank int) {
	t.Helper()
	was := a.All()
	if e := a.Move(id, at, rank); e != api.ErrNone {
		t.Errorf("Move(%d, %d, %d): error %d, not ErrNone", id, at, rank, int(e))
	}
	expect(t, a, was...)
}

// drop drops an item, or one that is not there: the others stay, in their order.
func drop(t *testing.T, a *agenda.Agenda, id int, want bool) {
	t.Helper()
	left := others(a.All(), id)
	if was := a.Len() != len(left); was != want {
		t.Errorf("ahead of Drop(%d): it is there: %v", id, was)
	}
	if got := a.Drop(id); got != want {
		t.Errorf("Drop(%d) = %v", id, got)
	}
	expect(t, a, left...)
}

// pop takes the items that are due, and compares them: they are gone then, and the others stay, in their order.
func pop(t *testing.T, a *agenda.Agenda, now int, want ...api.Item) {
	t.Helper()
	left := slices.DeleteFunc(a.All(), func(x api.Item) bool { return slices.Contains(want, x) })
	if got := a.Pop(now); !slices.Equal(got, want) {
		t.Errorf("Pop(%d) = %v, not %v", now, got, want)
	}
	expect(t, a, left...)
}

func TestExampleOfTheChapter(t *testing.T) {
	a := start(t, 10)
	push(t, a, item(1, 5, 0), item(2, 3, 0), item(3, 5, 0))
	expect(t, a, item(2, 3, 0), item(1, 5, 0), item(3, 5, 0))
	pop(t, a, 4, item(2, 3, 0))
	pop(t, a, 5, item(1, 5, 0), item(3, 5, 0))
	expect(t, a)
}

// P14.1
func TestNewHasItsBounds(t *testing.T) {
	if api.MaxTimers != 4096 || api.ErrSame != 140 {
		t.Fatal(api.MaxTimers, int(api.ErrSame))
	}
	for _, most := range []int{1, 2, 3, 4, 5, 63, 64, 4095, 4096} {
		a := start(t, most)
		expect(t, a)
		pop(t, a, math.MaxInt)
		drop(t, a, 0, false)
		miss(t, a, 0, 0, 0)
		for id := range most {
			if e := a.Push(item(id, 5, 0)); e != api.OK || a.Len() != id+1 {
				t.Fatalf("New(%d): error %d of the item %d, of %d", most, int(e), id, a.Len())
			}
		}
		refuse(t, a, item(most, 5, 0), api.ErrFull)
		if all := a.Pop(5); len(all) != most {
			t.Errorf("New(%d): %d items popped", most, len(all))
		}
		expect(t, a)
	}
	for _, most := range []int{math.MinInt, -1 << 32, -4096, -2, -1, 0, 4097, 4098, 8192, 1 << 32, 1<<32 + 1, math.MaxInt} {
		if a, e := agenda.New(most); a != nil || e != api.ErrArg {
			t.Errorf("New(%d): error %d", most, int(e))
		}
	}
}

// New is a pure function: what happens to one agenda does not show at another.
func TestAgendasDoNotAffectOneAnother(t *testing.T) {
	a, b := start(t, 3), start(t, 2)
	push(t, a, item(1, 10, 0), item(2, 20, 0), item(3, 30, 0))
	expect(t, b)
	miss(t, b, 1, 0, 0)
	push(t, b, item(2, 5, 9), item(1, 5, 9))
	refuse(t, a, item(4, 0, 0), api.ErrFull)
	refuse(t, b, item(4, 0, 0), api.ErrFull)
	move(t, a, 2, 1, 1)
	expect(t, b, item(2, 5, 9), item(1, 5, 9))
	drop(t, b, 2, true)
	drop(t, b, 3, false)
	expect(t, a, item(2, 1, 1), item(1, 10, 0), item(3, 30, 0))
	pop(t, a, 10, item(2, 1, 1), item(1, 10, 0))
	expect(t, b, item(1, 5, 9))
	pop(t, b, 100, item(1, 5, 9))
	expect(t, a, item(3, 30, 0))
	expect(t, start(t, 3))
}

func TestNilAgenda(t *testing.T) {
	var a *agenda.Agenda
	for _, id := range extremes() {
		for _, n := range extremes() {
			if e := a.Push(item(id, n, n)); e != api.ErrNil {
				t.Errorf("Push(%v): error %d", item(id, n, n), int(e))
			}
			if e := a.Move(id, n, n); e != api.ErrNil {
				t.Errorf("Move(%d, %d, %d): error %d", id, n, n, int(e))
			}
		}
		drop(t, a, id, false)
		pop(t, a, id)
	}
	expect(t, a)
}

// P14.2: Top, All and Len after each kind of call.
func TestStateAfterEachKindOfCall(t *testing.T) {
	a := start(t, 4)
	expect(t, a)
	push(t, a, item(1, 50, 0))
	expect(t, a, item(1, 50, 0))
	push(t, a, item(2, 60, 0)) // behind all
	expect(t, a, item(1, 50, 0), item(2, 60, 0))
	push(t, a, item(3, 40, 0)) // ahead of all
	expect(t, a, item(3, 40, 0), item(1, 50, 0), item(2, 60, 0))
	refuse(t, a, item(3, 0, 0), api.ErrSame)
	push(t, a, item(4, 50, 0)) // between
	expect(t, a, item(3, 40, 0), item(1, 50, 0), item(4, 50, 0), item(2, 60, 0))
	refuse(t, a, item(5, 0, 0), api.ErrFull)
	move(t, a, 3, 55, 0) // the first one is another one now
	expect(t, a, item(1, 50, 0), item(4, 50, 0), item(3, 55, 0), item(2, 60, 0))
	move(t, a, 1, 50, 1) // and again
	expect(t, a, item(4, 50, 0), item(1, 50, 1), item(3, 55, 0), item(2, 60, 0))
	miss(t, a, 5, 0, 0)
	drop(t, a, 5, false)
	drop(t, a, 4, true) // the first one
	expect(t, a, item(1, 50, 1), item(3, 55, 0), item(2, 60, 0))
	pop(t, a, 49)
	pop(t, a, 50, item(1, 50, 1))
	expect(t, a, item(3, 55, 0), item(2, 60, 0))
	push(t, a, item(1, 1, 0))
	expect(t, a, item(1, 1, 0), item(3, 55, 0), item(2, 60, 0))
	drop(t, a, 2, true) // the last one
	expect(t, a, item(1, 1, 0), item(3, 55, 0))
	pop(t, a, 100, item(1, 1, 0), item(3, 55, 0))
	expect(t, a)
	pop(t, a, 100)
	drop(t, a, 1, false)
	miss(t, a, 1, 0, 0)
	expect(t, a)
	push(t, a, item(0, 0, 0)) // the zero item is one as well
	expect(t, a, item(0, 0, 0))
	drop(t, a, 0, true)
	expect(t, a)
}

// What is asked of an agenda does not change it.
func TestAskingChangesNothing(t *testing.T) {
	a := start(t, 9)
	want := []api.Item{item(5, 1, 1), item(4, 1, 2), item(3, 2, 0), item(6, 2, 0), item(2, 2, 1)}
	for _, no := range []int{2, 4, 1, 3, 0} {
		push(t, a, want[no])
	}
	for range 10 {
		a.Top()
		a.Len()
		a.All()
		expect(t, a, want...)
	}
	pop(t, a, 2, want...)
}
