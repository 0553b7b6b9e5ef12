package agenda_test

import (
	"slices"
	"testing"

	"towrope/agenda"
	"towrope/api"
)

// spoil writes over all of a list, its unused capacity included.
func spoil(l []api.Item) {
	l = l[:cap(l)]
	for i := range l {
		l[i] = item(-77, -77, -77)
	}
}

// What All returns may be written over: the agenda stays as it is, and so does what it returned before or returns later.
func TestResultsOfAllAreNewMemory(t *testing.T) {
	for _, n := range []int{0, 1, 2, 3, 5, 8, 100} {
		a := start(t, 2*n+1)
		var want []api.Item
		for id := range n {
			push(t, a, item(id, 10*id, id))
			want = append(want, item(id, 10*id, id))
		}
		first, second := a.All(), a.All()
		popped := a.Pop(-1)
		spoil(first)
		spoil(popped)
		if !slices.Equal(second, want) {
			t.Fatal("a result shares with an earlier one:", second)
		}
		expect(t, a, want...)
		third := a.All()
		spoil(second)
		if !slices.Equal(third, want) {
			t.Fatal("a result shares with a later one:", third)
		}
		// What happens to the agenda does not show in what was returned.
		push(t, a, item(1000, 1000, 0))
		move(t, a, 1000, -1000, 0)
		drop(t, a, n/2, n > 0)
		pop(t, a, -1000, item(1000, -1000, 0))
		a.Pop(n * 10)
		if !slices.Equal(third, want) {
			t.Fatal("a result shares with the agenda:", third)
		}
		expect(t, a)
	}
}

// What Pop returns may be written over, likewise.
func TestResultsOfPopAreNewMemory(t *testing.T) {
	for _, n := range []int{0, 1, 2, 3, 5, 8, 100} {
		a := start(t, 3*n+1)
		var had [][]api.Item
		for round := range 8 {
			at := 100 * (round + 1)
			var want, left []api.Item
			for id := range n {
				want = append(want, item(id, at, id/2))
				left = append(left, item(1000+id, at+50, id/3))
			}
			for id := range n {
				push(t, a, left[id], want[id])
			}
			got := a.Pop(at)
			if !slices.Equal(got, want) {
				t.Fatal(got, want)
			}
			for _, l := range had {
				spoil(l)
			}
			if !slices.Equal(got, want) {
				t.Fatal("a result shares with an earlier one")
			}
			more, all := a.Pop(at), a.All()
			spoil(more)
			if !slices.Equal(got, want) || !slices.Equal(all, left) {
				t.Fatal("a result shares with a later one")
			}
			spoil(got)
			spoil(all)
			expect(t, a, left...)
			last := a.Pop(at + 50)
			for id := range n {
				push(t, a, item(id, at+60, 0)) // where the popped ones were
			}
			if !slices.Equal(last, left) {
				t.Fatal("a result shares with the agenda")
			}
			a.Pop(at + 60)
			if !slices.Equal(last, left) {
				t.Fatal("a result shares with the agenda, or with a later one")
			}
			had = append(had, got, last)
		}
	}
}

// Results of two agendas, and of one after the other.
func TestResultsShareNothing(t *testing.T) {
	a, b := start(t, 6), start(t, 6)
	for id := range 6 {
		for _, x := range []*agenda.Agenda{a, b} {
			push(t, x, item(id, 10*(id/2+1), 0))
		}
	}
	var popped, all [][]api.Item
	for now := 10; now <= 30; now += 10 {
		for _, x := range []*agenda.Agenda{a, b} {
			all = append(all, x.All())
			popped = append(popped, x.Pop(now))
		}
	}
	for i := range popped {
		var want []api.Item
		for id := i / 2 * 2; id < 6; id++ {
			want = append(want, item(id, 10*(id/2+1), 0))
		}
		if !slices.Equal(all[i], want) {
			t.Error(i, all[i], want)
		}
		spoil(all[i])
		if !slices.Equal(popped[i], want[:2]) {
			t.Error(i, popped[i], want)
		}
		spoil(popped[i])
	}
}

// The same calls are answered alike.
func TestSameCallsSameAnswers(t *testing.T) {
	var first []api.Item
	for round := range 5 {
		next := chance(5)
		a := start(t, 250)
		var all []api.Item
		for now := range 2000 {
			a.Push(item(next(300), now+next(200), next(3)))
			a.Move(next(300), now+next(200), next(3))
			if next(10) == 0 {
				a.Drop(next(300))
				all = append(all, a.All()...)
				all = append(all, a.Pop(now)...)
			}
		}
		if round == 0 {
			first = all
		} else if !slices.Equal(all, first) {
			t.Fatal("other answers")
		}
	}
}
