package pool_test

import (
	"slices"
	"testing"

	"towrope/api"
	"towrope/pool"
)

// P17.2: from each group, the numbers and sizes that this group has.
func TestTakeFromEachGroup(t *testing.T) {
	p := pool.New()
	for group := range 16 {
		provide(t, p, group, group*1000, 1, 1+group*4096)
		provide(t, p, group, group*1000+1, 1, 65536-group)
	}
	for group := range 16 {
		take(t, p, group, buf{group * 1000, 1 + group*4096})
		take(t, p, group, buf{group*1000 + 1, 65536 - group})
		takeNone(t, p, group, api.ErrNone)
		expect(t, p, group, nil, []int{group * 1000, group*1000 + 1})
	}
}

// P17.2: ErrArg where there is no such group, whatever the groups have.
func TestTakeFromNoGroup(t *testing.T) {
	p := pool.New()
	for _, group := range strangers() {
		takeNone(t, p, group, api.ErrArg)
	}
	for group := range 16 {
		provide(t, p, group, 0, 1024, 1)
	}
	for _, group := range strangers() {
		takeNone(t, p, group, api.ErrArg)
	}
}

// P17.2: ErrNone where there are no buffers, and where all of them are out.
func TestTakeWhereNoneIsFree(t *testing.T) {
	for _, count := range []int{1, 2, 3, 1024} {
		p := pool.New()
		takeNone(t, p, 8, api.ErrNone)
		provide(t, p, 7, 0, 9, 9)
		provide(t, p, 9, 0, 9, 9)
		takeNone(t, p, 8, api.ErrNone)
		provide(t, p, 8, 5, count, 3)
		for i := range count {
			take(t, p, 8, buf{5 + i, 3})
		}
		takeNone(t, p, 8, api.ErrNone)
		takeNone(t, p, 8, api.ErrNone)
		give(t, p, 8, 5)
		take(t, p, 8, buf{5, 3})
		takeNone(t, p, 8, api.ErrNone)
		give(t, p, 8, 5)
		remove(t, p, 8, 1, 1)
		takeNone(t, p, 8, api.ErrNone)
	}
}

// The least numbers are those of buffers as well.
func TestTakeOfTheLeast(t *testing.T) {
	p := pool.New()
	provide(t, p, 0, 0, 1, 1)
	take(t, p, 0, buf{0, 1})
	takeNone(t, p, 0, api.ErrNone)
	give(t, p, 0, 0)
	take(t, p, 0, buf{0, 1})
	expect(t, p, 0, nil, []int{0})
}

// orders are all orders of the numbers less than n.
func orders(n int) [][]int {
	if n == 0 {
		return [][]int{{}}
	}
	var all [][]int
	for _, order := range orders(n - 1) {
		for at := range n {
			all = append(all, slices.Insert(slices.Clone(order), at, n-1))
		}
	}
	return all
}

// P17.2: buffers are taken in the order in which they were provided, whatever their numbers are.
func TestTakeInTheOrderOfProviding(t *testing.T) {
	for _, order := range orders(5) {
		p := pool.New()
		for _, no := range order {
			provide(t, p, 3, no*7, 2, no+1)
		}
		for _, no := range order {
			take(t, p, 3, buf{no * 7, no + 1})
			take(t, p, 3, buf{no*7 + 1, no + 1})
		}
	}
}

// P17.2: and then in the order in which they were given back, behind those that were free already.
func TestTakeInTheOrderOfGivingBack(t *testing.T) {
	for _, order := range orders(5) {
		for stay := range 3 {
			p := pool.New()
			provide(t, p, 3, 10, 5, 4)
			for no := range stay {
				provide(t, p, 3, 20+no, 1, 6)
			}
			for no := range 5 {
				take(t, p, 3, buf{10 + no, 4})
			}
			var want []buf
			for no := range stay {
				want = append(want, buf{20 + no, 6})
			}
			for _, no := range order {
				give(t, p, 3, 10+no)
				want = append(want, buf{10 + no, 4})
			}
			for _, b := range want {
				take(t, p, 3, b)
			}
			takeNone(t, p, 3, api.ErrNone)
		}
	}
}

// Round and round: what is given back at once comes again behind all others.
func TestTakeGoesRound(t *testing.T) {
	for _, count := range []int{1, 2, 3, 5, 100} {
		p := pool.New()
		provide(t, p, 0, 400, count, 12)
		for step := range 5 * count {
			take(t, p, 0, buf{400 + step%count, 12})
			give(t, p, 0, 400+step%count)
		}
		expect(t, p, 0, series(400, count), nil)
	}
}

// P17.2: what is provided and what is given back stand in one row, as they came.
func TestOrderOfProvidedAndGivenBack(t *testing.T) {
	p := pool.New()
	provide(t, p, 1, 0, 3, 1)
	take(t, p, 1, buf{0, 1})
	take(t, p, 1, buf{1, 1})
	give(t, p, 1, 1) // 2 1
	provide(t, p, 1, 5, 2, 2)
	give(t, p, 1, 0) // 2 1 5 6 0
	expect(t, p, 1, []int{2, 1, 5, 6, 0}, nil)
	take(t, p, 1, buf{2, 1})
	take(t, p, 1, buf{1, 1})
	give(t, p, 1, 2) // 5 6 0 2
	provide(t, p, 1, 3, 1, 3)
	expect(t, p, 1, []int{5, 6, 0, 2, 3}, []int{1})
	for _, b := range []buf{{5, 2}, {6, 2}, {0, 1}, {2, 1}, {3, 3}} {
		take(t, p, 1, b)
	}
	takeNone(t, p, 1, api.ErrNone)
	give(t, p, 1, 1)
	take(t, p, 1, buf{1, 1})
}
