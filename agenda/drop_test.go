package agenda_test

import (
	"math"
	"testing"

	"towrope/api"
)

// P14.1: one that is there, and one that never was, was dropped, or was popped.
func TestDrop(t *testing.T) {
	for _, at := range []int{math.MinInt, -1, 0, 10, math.MaxInt} {
		a := start(t, 2)
		drop(t, a, 1, false) // of none
		push(t, a, item(1, at, 0))
		drop(t, a, 2, false) // never there
		expect(t, a, item(1, at, 0))
		drop(t, a, 1, true) // there
		expect(t, a)
		drop(t, a, 1, false) // dropped
		pop(t, a, math.MaxInt)
		push(t, a, item(1, at, 0), item(2, at, 0))
		pop(t, a, at, item(1, at, 0), item(2, at, 0))
		drop(t, a, 1, false) // popped
		drop(t, a, 2, false)
		push(t, a, item(2, at, 0))
		move(t, a, 2, 5, 5)
		drop(t, a, 1, false)
		drop(t, a, 2, true) // moved
		drop(t, a, 2, false)
		expect(t, a)
	}
}

// P14.1: of several items that is removed which is asked for, and no other one: each set of them, pushed and dropped in each order.
func TestDropRemovesThoseThatAreAskedFor(t *testing.T) {
	for _, apart := range []int{0, 1, 10} {
		for _, pushes := range orders(4) {
			for mask := range 1 << 4 {
				for _, drops := range [][]int{{0, 1, 2, 3}, {3, 2, 1, 0}, {1, 3, 0, 2}} {
					a := start(t, 5)
					for i, no := range pushes {
						// With equal At and Rank the order of insertion counts.
						push(t, a, item(no, apart*no, 0))
						drop(t, a, pushes[(i+1)%4]+100, false)
					}
					want := a.All()
					for _, no := range drops {
						if mask>>no&1 == 1 {
							drop(t, a, no, true)
							want = others(want, no)
						}
					}
					expect(t, a, want...)
					push(t, a, item(7, apart*4, 0))
					pop(t, a, apart*4, append(want, item(7, apart*4, 0))...)
				}
			}
		}
	}
}

// P14.1: at each place, among how many ever: the first one, the last one, and each between.
func TestDropAtEachPlace(t *testing.T) {
	for n := 1; n <= 33; n++ {
		for _, way := range ways(n) {
			for gone := range n {
				a := start(t, n)
				var want []api.Item
				for _, no := range way {
					push(t, a, item(no, no/2, no%2))
				}
				for no := range n {
					if no != gone {
						want = append(want, item(no, no/2, no%2))
					}
				}
				drop(t, a, gone, true)
				expect(t, a, want...)
				pop(t, a, n, want...)
			}
		}
	}
}

// All but one, downwards and upwards.
func TestDropAllButOne(t *testing.T) {
	for left := range 20 {
		for _, way := range ways(20) {
			a := start(t, 20)
			for _, no := range way {
				push(t, a, item(no, no, 0))
			}
			for _, no := range way {
				if no != left {
					drop(t, a, no, true)
				}
			}
			expect(t, a, item(left, left, 0))
			pop(t, a, left-1)
			pop(t, a, left, item(left, left, 0))
		}
	}
}
