package agenda

import (
	"container/heap"
	"testing"

	"towrope/api"
)

// The chapter's Ways: the library's heap works on the items.
var _ heap.Interface = (*queue)(nil)

// kept goes through all entries: none is ahead of the one above it, and the map leads to each of them and to nothing else.
func kept(t *testing.T, a *Agenda) {
	t.Helper()
	q := &a.queue
	if len(q.places) != len(q.entries) {
		t.Fatalf("%d places of %d items", len(q.places), len(q.entries))
	}
	for i, e := range q.entries {
		if at, ok := q.places[e.ID]; at != i || !ok {
			t.Fatalf("the item %d is at %d, not %d", e.ID, i, at)
		}
		if above := (i - 1) / 2; i > 0 && !q.Less(above, i) {
			t.Fatalf("%v above %v", q.entries[above], e)
		}
		if e.no >= a.pushed {
			t.Fatalf("the item %d is the one with the number %d, of %d", e.ID, e.no, a.pushed)
		}
	}
}

// The chapter's Ways: items are where the map says after each kind of call, and so are found without going through others.
func TestItemsAreAtTheirPlaces(t *testing.T) {
	seed := uint64(1)
	next := func(n int) int {
		seed = seed*6364136223846793005 + 1442695040888963407
		return int(seed>>33) % n
	}
	for round := range 60 {
		a, _ := New(1 + next(1<<(round%9)))
		ids := 1 << (round % 10)
		for now := range 400 {
			id, at, rank := next(ids), now+next(1+ids), next(3)
			switch next(8) {
			case 0:
				a.Drop(id)
			case 1:
				a.Pop(now)
			case 2, 3:
				a.Move(id, at, rank)
			default:
				a.Push(api.Item{ID: id, At: at, Rank: rank})
			}
			kept(t, a)
		}
		a.Pop(10000)
		kept(t, a)
	}
}

// Where nothing is due, no list of items is made: otherwise each step of a world would go through all items.
func TestPopOfNoneMakesNoList(t *testing.T) {
	a, _ := New(api.MaxTimers)
	for id := range api.MaxTimers {
		a.Push(api.Item{ID: id, At: 1 << 20})
	}
	now := 0
	step := func() {
		now++
		a.Pop(now)
		a.Top()
		a.Len()
	}
	if n := testing.AllocsPerRun(1000, step); n != 0 {
		t.Errorf("%v allocations for each step", n)
	}
}
