package agenda_test

import (
	"cmp"
	"math"
	"slices"
	"testing"

	"towrope/api"
)

// watch is what is expected of items that were pushed and neither moved nor dropped, told from the pushes alone.
type watch struct {
	t      *testing.T
	number map[int]int // how many were pushed ahead of it, by the ID of an item that has not been popped yet
	items  map[int]api.Item
	pushed int
	popped int
}

func newWatch(t *testing.T) *watch {
	return &watch{t: t, number: map[int]int{}, items: map[int]api.Item{}}
}

// pushes notes an item that was pushed.
func (w *watch) pushes(x api.Item) {
	w.number[x.ID] = w.pushed
	w.items[x.ID] = x
	w.pushed++
}

// forgets notes that an item was moved or dropped: nothing is said of it.
func (w *watch) forgets(id int) {
	delete(w.number, id)
	delete(w.items, id)
}

// pops checks what was popped at a tick: those of which something is said came as they were pushed, not before their tick, each of them once, and in order.
func (w *watch) pops(now int, l []api.Item) {
	w.t.Helper()
	last, seen := api.Item{}, false
	lastNumber := 0
	for _, x := range l {
		number, ok := w.number[x.ID]
		if !ok {
			continue
		}
		if x != w.items[x.ID] || x.At > now {
			w.t.Fatalf("Pop(%d): %v, pushed as %v", now, x, w.items[x.ID])
		}
		if seen && cmp.Or(cmp.Compare(last.At, x.At), cmp.Compare(last.Rank, x.Rank), cmp.Compare(lastNumber, number)) >= 0 {
			w.t.Fatalf("Pop(%d): %v behind %v", now, x, last)
		}
		last, seen, lastNumber = x, true, number
		w.forgets(x.ID) // a second time it would be one of which nothing was pushed
		w.popped++
	}
	for id, x := range w.items {
		if x.At <= now {
			w.t.Fatalf("Pop(%d) left %v, the item %d", now, x, id)
		}
	}
}

// P14.3: over long runs of calls, among items that are moved and dropped.
func TestPushedIsPoppedOnce(t *testing.T) {
	for seed := range uint64(40) {
		next := chance(seed)
		w := newWatch(t)
		a := start(t, 1<<(seed%13))
		touched := map[int]bool{} // those that were moved, until they are popped or dropped
		id := 0
		for now := range 3000 {
			for range next(4) {
				x := item(id, now+next(1<<(seed%11))-next(3), next(3))
				id++
				if a.Push(x) == api.OK {
					w.pushes(x)
				}
			}
			for range next(2) {
				other := id - 1 - next(50)
				if a.Move(other, now+next(40), next(3)) == api.OK {
					w.forgets(other)
					touched[other] = true
				}
				other = id - 1 - next(50)
				if a.Drop(other) {
					w.forgets(other)
					delete(touched, other)
				}
			}
			if next(3) > 0 {
				continue
			}
			l := a.Pop(now)
			for _, x := range l {
				_, ok := w.number[x.ID]
				if !ok && !touched[x.ID] {
					t.Fatalf("Pop(%d): %v, which was popped or dropped", now, x)
				}
				delete(touched, x.ID)
			}
			w.pops(now, l)
		}
		w.pops(math.MaxInt, a.Pop(math.MaxInt))
		if len(w.items) != 0 || w.popped < 50 {
			t.Fatal(seed, len(w.items), w.popped)
		}
		expect(t, a)
	}
}

// P14.3: where nothing is moved or dropped, and each item is pushed for a tick that is to come, all that is popped over a long run is in order, and is all that was pushed.
func TestAllThatIsPoppedIsInOrder(t *testing.T) {
	for seed := range uint64(40) {
		next := chance(seed)
		span := 1 << (seed % 12)
		a := start(t, 4096)
		var pushed, popped []api.Item
		for now := -500; now < 2000; now++ {
			for range next(4) {
				x := item(len(pushed), now+1+next(span), next(4)-2)
				if e := a.Push(x); e != api.OK {
					t.Fatal(x, int(e))
				}
				pushed = append(pushed, x)
			}
			if next(5) > 0 { // otherwise more of them are due at the next Pop
				popped = append(popped, a.Pop(now)...)
			}
			if len(popped)+a.Len() != len(pushed) {
				t.Fatal(seed, now, len(popped), a.Len(), len(pushed))
			}
		}
		popped = append(popped, a.Pop(5000)...)
		// Stable, as items have been pushed in the order of their IDs.
		slices.SortStableFunc(pushed, func(x, y api.Item) int {
			return cmp.Or(cmp.Compare(x.At, y.At), cmp.Compare(x.Rank, y.Rank))
		})
		if !slices.Equal(popped, pushed) || len(pushed) < 2000 {
			t.Fatal(seed, "popped", len(popped), "pushed", len(pushed))
		}
		expect(t, a)
	}
}

// P14.3: IDs that are used again and again, each item of them being popped once.
func TestIDsThatAreUsedAgain(t *testing.T) {
	for seed := range uint64(20) {
		next := chance(seed)
		a := start(t, 8)
		at := map[int]int{}
		pushes, pops := 0, 0
		for now := range 5000 {
			x := item(next(12), now+next(20), next(2))
			_, there := at[x.ID]
			e := a.Push(x)
			if there != (e == api.ErrSame) || !there && (len(at) == 8) != (e == api.ErrFull) {
				t.Fatalf("Push(%v): error %d, with %v", x, int(e), at)
			}
			if e == api.OK {
				at[x.ID] = x.At
				pushes++
			}
			for _, x := range a.Pop(now) {
				if due, ok := at[x.ID]; !ok || due != x.At || due != now {
					t.Fatalf("Pop(%d): %v, with %v", now, x, at)
				}
				delete(at, x.ID)
				pops++
			}
		}
		if pushes != pops+a.Len() || a.Len() != len(at) || pops < 1000 {
			t.Fatal(pushes, pops, a.Len())
		}
	}
}
