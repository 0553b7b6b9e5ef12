package agenda_test

import (
	"math"
	"slices"
	"testing"

	"towrope/api"
)

// orders are all orders of the numbers less than n.
func orders(n int) [][]int {
	if n == 0 {
		return [][]int{{}}
	}
	var all [][]int
	for _, order := range orders(n - 1) {
		for at := range n {
			all = append(all, slices.Insert(slices.Clone(order), at, n-1))
		}
	}
	return all
}

// The definition: by At, then by Rank, in whichever order they were pushed.
func TestOrderIsByAtThenByRank(t *testing.T) {
	for _, want := range [][]api.Item{
		{item(1, 1, 0), item(2, 2, 0), item(3, 3, 0), item(4, 4, 0), item(5, 5, 0)},
		{item(5, 1, 0), item(4, 2, 0), item(3, 3, 0), item(2, 4, 0), item(1, 5, 0)},
		{item(1, 7, 1), item(2, 7, 2), item(3, 7, 3), item(4, 7, 4), item(5, 7, 5)},
		{item(5, 7, -2), item(4, 7, -1), item(3, 7, 0), item(2, 7, 1), item(1, 7, 2)},
		{item(9, 1, 9), item(8, 1, 10), item(0, 2, 0), item(7, 2, 1), item(1, 3, -5)}, // At counts first
		{item(1, -3, 5), item(2, -2, 4), item(3, -1, 3), item(4, 0, 2), item(5, 1, 1)},
		{item(3, math.MinInt, math.MaxInt), item(4, -1, 0), item(1, 0, math.MinInt), item(2, 0, math.MaxInt), item(5, math.MaxInt, math.MinInt)},
	} {
		for _, order := range orders(5) {
			a := start(t, 5)
			for _, no := range order {
				push(t, a, want[no])
			}
			expect(t, a, want...)
			pop(t, a, math.MaxInt, want...)
		}
	}
}

// The definition: those of equal At and Rank as they were pushed, whatever their IDs are.
func TestOrderIsByInsertionThen(t *testing.T) {
	for _, at := range []int{math.MinInt, -1, 0, 7, math.MaxInt} {
		for _, rank := range []int{math.MinInt, -1, 0, 7, math.MaxInt} {
			for _, order := range orders(5) {
				a := start(t, 5)
				var want []api.Item
				for _, id := range order {
					push(t, a, item(id, at, rank))
					want = append(want, item(id, at, rank))
				}
				expect(t, a, want...)
				pop(t, a, at, want...)
			}
		}
	}
}

// Many items of equal At and Rank: more than a sort, or a heap, leaves in their order by chance.
func TestOrderOfManyEqualItems(t *testing.T) {
	for _, kinds := range []int{1, 2, 3, 6} {
		a := start(t, 4096)
		lists := map[int][]api.Item{}
		for i := range 4096 {
			kind := i * 7 % kinds
			x := item(-i*5, 100+kind/2, kind%2)
			if e := a.Push(x); e != api.OK {
				t.Fatal(i, int(e))
			}
			lists[kind] = append(lists[kind], x)
		}
		var want []api.Item
		for kind := range kinds {
			want = append(want, lists[kind]...)
		}
		expect(t, a, want...)
		pop(t, a, 100, append(lists[0], lists[1]...)...)
		pop(t, a, 200, want[len(lists[0])+len(lists[1]):]...)
	}
}

// P14.1: any numbers are an ID, an At and a Rank; also where their difference is no int.
func TestAnyNumbersAreAnItem(t *testing.T) {
	l := extremes()
	a := start(t, 4096)
	var want []api.Item
	for i, at := range l {
		for j, rank := range l {
			want = append(want, item(len(l)*i+j, at, rank))
		}
	}
	for i := range want {
		push(t, a, want[i*35%len(want)])
	}
	expect(t, a, want...)
	for i, at := range l {
		pop(t, a, at, want[len(l)*i:len(l)*(i+1)]...)
	}
	var pushed []api.Item
	for _, id := range l {
		miss(t, a, id, 1, 1)
		drop(t, a, id, false)
		x := item(id, 9, 9)
		push(t, a, x)
		refuse(t, a, x, api.ErrSame)
		pushed = append(pushed, x)
		expect(t, a, pushed...)
	}
	for i, id := range l {
		move(t, a, id, 9, 8)
		pop(t, a, 8)
		expect(t, a, append([]api.Item{item(id, 9, 8)}, others(pushed, id)...)...)
		move(t, a, id, 9, 9)
		expect(t, a, pushed...)
		if i%2 == 0 {
			drop(t, a, id, true)
			pushed = others(pushed, id)
		}
	}
	pop(t, a, 9, pushed...)
	for _, id := range l {
		miss(t, a, id, 1, 1)
		drop(t, a, id, false)
	}
}

// P14.1: an ID that is there already, whatever else the item has.
func TestPushOfTheSameID(t *testing.T) {
	a := start(t, 5)
	push(t, a, item(1, 10, 0), item(2, 20, 0), item(3, 20, 0))
	for id := 1; id <= 3; id++ {
		for _, at := range []int{math.MinInt, 0, 10, 15, 20, 30, math.MaxInt} {
			for _, rank := range []int{math.MinInt, -1, 0, 1, math.MaxInt} {
				refuse(t, a, item(id, at, rank), api.ErrSame)
			}
		}
	}
	// One that was moved is there.
	move(t, a, 1, 40, 0)
	refuse(t, a, item(1, 10, 0), api.ErrSame)
	refuse(t, a, item(1, 40, 0), api.ErrSame)
	// One that was popped is not, nor one that was dropped.
	pop(t, a, 20, item(2, 20, 0), item(3, 20, 0))
	push(t, a, item(2, 20, 0))
	refuse(t, a, item(2, 20, 0), api.ErrSame)
	drop(t, a, 1, true)
	push(t, a, item(1, 10, 0))
	refuse(t, a, item(1, 5, 0), api.ErrSame)
	expect(t, a, item(1, 10, 0), item(2, 20, 0))
}

// P14.1: as many items as there may be, and no other one. ErrSame comes first.
func TestPushToAFullAgenda(t *testing.T) {
	for _, most := range []int{1, 2, 3, 100, 4096} {
		a := start(t, most)
		var want []api.Item
		for i := range most {
			want = append(want, item(i, i/3, i%3))
		}
		for i := range most {
			if e := a.Push(want[(i*7+most/2)%most]); e != api.OK {
				t.Fatal(most, i, int(e))
			}
		}
		expect(t, a, want...)
		for _, id := range []int{math.MinInt, -1, most, most + 1, math.MaxInt} {
			refuse(t, a, item(id, 0, 0), api.ErrFull)
			refuse(t, a, item(id, 9999, 0), api.ErrFull)
			miss(t, a, id, 0, 0)
		}
		for _, id := range []int{0, most / 2, most - 1} {
			refuse(t, a, item(id, 0, 0), api.ErrSame)
			refuse(t, a, item(id, 9999, 0), api.ErrSame)
			refuse(t, a, want[id], api.ErrSame)
		}
		// One that is moved neither takes room nor makes any.
		move(t, a, most/2, -1, 0)
		refuse(t, a, item(most, 0, 0), api.ErrFull)
		move(t, a, most/2, most/2/3, most/2%3)
		// Nor does one make room that is not there.
		drop(t, a, most, false)
		refuse(t, a, item(most, 0, 0), api.ErrFull)
		pop(t, a, -1)
		refuse(t, a, item(most, 0, 0), api.ErrFull)
		// One that is dropped makes room for one.
		drop(t, a, 0, true)
		push(t, a, item(most, -5, 0))
		refuse(t, a, item(0, 0, 0), api.ErrFull)
		refuse(t, a, item(most, 0, 0), api.ErrSame)
		// So does one that is popped.
		pop(t, a, -5, item(most, -5, 0))
		push(t, a, want[0])
		refuse(t, a, item(most, 0, 0), api.ErrFull)
		// And so do all.
		pop(t, a, 9999, want...)
		for i := range most {
			if e := a.Push(item(i, 1, 0)); e != api.OK {
				t.Fatal(most, i, int(e))
			}
		}
		refuse(t, a, item(most, 0, 0), api.ErrFull)
	}
}

// One that is refused does not count as pushed, whether it is there or not.
func TestRefusedDoesNotCountAsPushed(t *testing.T) {
	a := start(t, 3)
	push(t, a, item(1, 10, 0), item(2, 10, 0))
	refuse(t, a, item(1, 10, 0), api.ErrSame)
	push(t, a, item(3, 10, 0))
	refuse(t, a, item(1, 10, 0), api.ErrSame)
	refuse(t, a, item(2, 10, 0), api.ErrSame)
	refuse(t, a, item(4, 10, 0), api.ErrFull)
	expect(t, a, item(1, 10, 0), item(2, 10, 0), item(3, 10, 0))
	drop(t, a, 1, true)
	push(t, a, item(5, 10, 0))
	pop(t, a, 10, item(2, 10, 0), item(3, 10, 0), item(5, 10, 0))
}

// An item that was popped or dropped and is pushed again counts as pushed now.
func TestPushedAgainCountsAsPushedNow(t *testing.T) {
	a := start(t, 9)
	push(t, a, item(1, 10, 0), item(2, 10, 0), item(3, 10, 0))
	drop(t, a, 1, true) // the first one
	push(t, a, item(1, 10, 0))
	expect(t, a, item(2, 10, 0), item(3, 10, 0), item(1, 10, 0))
	drop(t, a, 3, true) // one between, and others are pushed ahead of it
	push(t, a, item(4, 10, 0), item(5, 10, 0), item(3, 10, 0))
	expect(t, a, item(2, 10, 0), item(1, 10, 0), item(4, 10, 0), item(5, 10, 0), item(3, 10, 0))
	drop(t, a, 3, true) // the last one
	push(t, a, item(3, 10, 0))
	expect(t, a, item(2, 10, 0), item(1, 10, 0), item(4, 10, 0), item(5, 10, 0), item(3, 10, 0))
	move(t, a, 2, 5, 0)
	pop(t, a, 5, item(2, 5, 0))
	push(t, a, item(6, 10, 0), item(2, 10, 0))
	expect(t, a, item(1, 10, 0), item(4, 10, 0), item(5, 10, 0), item(3, 10, 0), item(6, 10, 0), item(2, 10, 0))
	pop(t, a, 10, item(1, 10, 0), item(4, 10, 0), item(5, 10, 0), item(3, 10, 0), item(6, 10, 0), item(2, 10, 0))
	push(t, a, item(2, 10, 0), item(1, 10, 0)) // where there was none left
	pop(t, a, 10, item(2, 10, 0), item(1, 10, 0))
}
