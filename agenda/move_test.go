package agenda_test

import (
	"math"
	"slices"
	"testing"

	"towrope/api"
)

// P14.1: to an earlier and to a later At, to another Rank, to the same ones.
func TestMove(t *testing.T) {
	a := start(t, 5)
	push(t, a, item(1, 10, 5), item(2, 20, 5), item(3, 30, 5), item(4, 40, 5), item(5, 50, 5))
	move(t, a, 3, 30, 5) // to the same ones
	expect(t, a, item(1, 10, 5), item(2, 20, 5), item(3, 30, 5), item(4, 40, 5), item(5, 50, 5))
	move(t, a, 3, 30, 6) // only to another Rank
	expect(t, a, item(1, 10, 5), item(2, 20, 5), item(3, 30, 6), item(4, 40, 5), item(5, 50, 5))
	move(t, a, 3, 25, 6) // to another At, but in the same order
	expect(t, a, item(1, 10, 5), item(2, 20, 5), item(3, 25, 6), item(4, 40, 5), item(5, 50, 5))
	move(t, a, 4, 5, 5) // to the first place
	expect(t, a, item(4, 5, 5), item(1, 10, 5), item(2, 20, 5), item(3, 25, 6), item(5, 50, 5))
	move(t, a, 4, 60, 5) // to the last place
	expect(t, a, item(1, 10, 5), item(2, 20, 5), item(3, 25, 6), item(5, 50, 5), item(4, 60, 5))
	move(t, a, 1, 50, 4) // ahead of an equal At by its Rank
	expect(t, a, item(2, 20, 5), item(3, 25, 6), item(1, 50, 4), item(5, 50, 5), item(4, 60, 5))
	move(t, a, 1, 50, 6) // behind it
	expect(t, a, item(2, 20, 5), item(3, 25, 6), item(5, 50, 5), item(1, 50, 6), item(4, 60, 5))
	move(t, a, 1, 50, 5) // ahead of it again, as it was pushed ahead of it
	expect(t, a, item(2, 20, 5), item(3, 25, 6), item(1, 50, 5), item(5, 50, 5), item(4, 60, 5))
	pop(t, a, 24, item(2, 20, 5))
	pop(t, a, 50, item(3, 25, 6), item(1, 50, 5), item(5, 50, 5))
	pop(t, a, 60, item(4, 60, 5))
}

// P14.1: only what is there can be moved.
func TestMoveOfWhatIsNotThere(t *testing.T) {
	a := start(t, 3)
	for _, id := range extremes() {
		miss(t, a, id, id, id) // of none
	}
	push(t, a, item(1, 10, 0), item(2, 20, 0), item(3, 30, 0))
	for _, id := range append(extremes(), 4, 10, 20, 30) {
		if id != 1 {
			miss(t, a, id, 0, 0) // never there
		}
	}
	drop(t, a, 2, true)
	miss(t, a, 2, 20, 0) // dropped
	miss(t, a, 2, 25, 5)
	pop(t, a, 10, item(1, 10, 0))
	miss(t, a, 1, 10, 0) // popped
	miss(t, a, 1, 50, 5)
	move(t, a, 3, 5, 0)
	push(t, a, item(1, 10, 0))
	move(t, a, 1, 1, 1) // there again
	expect(t, a, item(1, 1, 1), item(3, 5, 0))
}

// P14.1: to whichever numbers.
func TestMoveToExtremes(t *testing.T) {
	for _, at := range extremes() {
		for _, rank := range extremes() {
			a := start(t, 3)
			push(t, a, item(2, -7, 0), item(1, 7, 7), item(3, 70, 0))
			move(t, a, 1, at, rank)
			want := []api.Item{item(2, -7, 0), item(3, 70, 0)}
			no := 0
			if at > -7 {
				no = 1
			}
			if at > 70 {
				no = 2
			}
			want = slices.Insert(want, no, item(1, at, rank))
			expect(t, a, want...)
			pop(t, a, math.MaxInt, want...)
		}
	}
}

// ways are some orders of the numbers less than n: upwards, downwards, and by turns from both ends.
func ways(n int) [][]int {
	var up, down, turns []int
	for i := range n {
		up = append(up, i)
		down = append(down, n-1-i)
		if i%2 == 0 {
			turns = append(turns, i/2)
		} else {
			turns = append(turns, n-1-i/2)
		}
	}
	return [][]int{up, down, turns}
}

// P14.1: each item from each place to each other one, among how many ever.
func TestMoveFromEachPlaceToEachPlace(t *testing.T) {
	for n := 1; n <= 17; n++ {
		for _, way := range ways(n) {
			for from := range n {
				for to := 0; to <= n; to++ {
					a := start(t, n)
					var want []api.Item
					for _, no := range way {
						push(t, a, item(no, 10*no, 0))
					}
					for no := range n {
						if no == to {
							want = append(want, item(from, 10*to-5, 0))
						}
						if no != from {
							want = append(want, item(no, 10*no, 0))
						}
					}
					if to == n {
						want = append(want, item(from, 10*to-5, 0))
					}
					move(t, a, from, 10*to-5, 0)
					expect(t, a, want...)
					pop(t, a, 10*n, want...)
				}
			}
		}
	}
}

// P14.1: an item that comes to be equal to another one is ahead of it if it was pushed ahead of it, from wherever it comes.
func TestMoveToAnEqualPlace(t *testing.T) {
	for n := 2; n <= 12; n++ {
		for _, way := range ways(n) {
			for from := range n {
				for to := range n {
					a := start(t, n)
					for _, no := range way {
						push(t, a, item(no, 10*no, no%2))
					}
					move(t, a, from, 10*to, to%2)
					first, second := from, to
					if slices.Index(way, to) < slices.Index(way, from) {
						first, second = to, from
					}
					var want []api.Item
					for no := range n {
						switch {
						case no == to && from == to:
							want = append(want, item(to, 10*to, to%2))
						case no == to:
							want = append(want, item(first, 10*to, to%2), item(second, 10*to, to%2))
						case no != from:
							want = append(want, item(no, 10*no, no%2))
						}
					}
					expect(t, a, want...)
					pop(t, a, 10*n, want...)
				}
			}
		}
	}
}

// P14.1: the place in the order of insertion stays, whichever items are moved to be equal, in whichever order.
func TestMoveKeepsTheOrderOfInsertion(t *testing.T) {
	for _, pushes := range orders(4) {
		for _, moves := range orders(4) {
			a := start(t, 4)
			for _, id := range pushes {
				push(t, a, item(id, 10*id, id))
			}
			for _, id := range moves {
				move(t, a, id, 15, 2)
			}
			var want []api.Item
			for _, id := range pushes {
				want = append(want, item(id, 15, 2))
			}
			expect(t, a, want...)
			pop(t, a, 15, want...)
		}
	}
}

// P14.1: also away and back again, while others are pushed, dropped and popped.
func TestMoveAwayAndBack(t *testing.T) {
	for away := 0; away <= 20; away += 5 {
		a := start(t, 9)
		push(t, a, item(1, 10, 0), item(2, 10, 0), item(3, 10, 0))
		move(t, a, 2, away, -1)
		push(t, a, item(4, 10, 0))
		move(t, a, 2, away+1, 1)
		move(t, a, 1, away, away)
		drop(t, a, 3, true)
		push(t, a, item(3, 10, 0), item(5, 10, 0))
		move(t, a, 5, math.MinInt, 0)
		pop(t, a, -2, item(5, math.MinInt, 0))
		push(t, a, item(5, 10, 0))
		move(t, a, 3, math.MaxInt, 0)
		for _, id := range []int{2, 3, 1} {
			move(t, a, id, 10, 0)
		}
		pop(t, a, 10, item(1, 10, 0), item(2, 10, 0), item(4, 10, 0), item(3, 10, 0), item(5, 10, 0))
	}
}

// P14.1: one that was moved many times comes once.
func TestMoveManyTimes(t *testing.T) {
	a := start(t, 3)
	push(t, a, item(1, 0, 0), item(2, 500, 0), item(3, 500, 1))
	for i := range 1000 {
		move(t, a, 1, i*7%1000, i%3)
	}
	expect(t, a, item(2, 500, 0), item(3, 500, 1), item(1, 993, 0))
	move(t, a, 1, 500, 1)
	pop(t, a, 1000, item(2, 500, 0), item(1, 500, 1), item(3, 500, 1))
}

// P14.1: a moved item comes at its new At, and not at its old one.
func TestMovedComesAtItsNewAt(t *testing.T) {
	a := start(t, 3)
	push(t, a, item(1, 10, 0), item(2, 20, 0), item(3, 30, 0))
	move(t, a, 1, 25, 0) // later
	pop(t, a, 19)
	pop(t, a, 20, item(2, 20, 0))
	pop(t, a, 24)
	move(t, a, 3, 5, 0) // earlier, and its At has passed
	pop(t, a, 24, item(3, 5, 0))
	pop(t, a, 25, item(1, 25, 0))
	pop(t, a, math.MaxInt)
}
