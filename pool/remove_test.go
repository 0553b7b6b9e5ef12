package pool_test

import (
	"math"
	"testing"

	"towrope/api"
	"towrope/pool"
)

// P17.2: each number of buffers, of each number that is free, with others that are out.
func TestRemoveOfEachNumber(t *testing.T) {
	for free := range 8 {
		for out := range 3 {
			for _, n := range []int{0, 1, 2, 3, 4, 5, 6, 7, 8, 9, 100, 1023, 1024, 1025, 65536, 1 << 32, 1<<32 + 1, math.MaxInt - 1, math.MaxInt} {
				p := pool.New()
				if free+out > 0 {
					provide(t, p, 11, 60, free+out, 8)
				}
				for i := range out {
					take(t, p, 11, buf{60 + i, 8})
				}
				remove(t, p, 11, n, min(n, free))
				left := max(0, free-n)
				expect(t, p, 11, series(60+out+free-left, left), series(60, out))
			}
		}
	}
}

// P17.2: the first ones in the order in which they would be taken, whatever their numbers are.
func TestRemoveTakesTheFirst(t *testing.T) {
	p := pool.New()
	provide(t, p, 0, 50, 2, 1)
	provide(t, p, 0, 10, 2, 2)
	provide(t, p, 0, 30, 2, 3)
	take(t, p, 0, buf{50, 1})
	take(t, p, 0, buf{51, 1})
	give(t, p, 0, 50)
	expect(t, p, 0, []int{10, 11, 30, 31, 50}, []int{51})
	remove(t, p, 0, 1, 1)
	expect(t, p, 0, []int{11, 30, 31, 50}, []int{51})
	remove(t, p, 0, 3, 3)
	expect(t, p, 0, []int{50}, []int{51})
	give(t, p, 0, 51)
	remove(t, p, 0, 1, 1)
	expect(t, p, 0, []int{51}, nil)
	take(t, p, 0, buf{51, 1})
	remove(t, p, 0, 1, 0)
	expect(t, p, 0, nil, []int{51})
}

// P17.2: ones that are out stay, and can be given back.
func TestRemoveLeavesWhatIsOut(t *testing.T) {
	p := pool.New()
	provide(t, p, 6, 0, 6, 44)
	for id := range 3 {
		take(t, p, 6, buf{id, 44})
	}
	remove(t, p, 6, math.MaxInt, 3)
	expect(t, p, 6, nil, series(0, 3))
	remove(t, p, 6, math.MaxInt, 0)
	takeNone(t, p, 6, api.ErrNone)
	refuse(t, p, 6, 2, 2, 5, api.ErrSame)
	for id := range 3 {
		give(t, p, 6, id)
	}
	expect(t, p, 6, series(0, 3), nil)
	for id := range 3 {
		take(t, p, 6, buf{id, 44})
	}
}

// P17.2: ErrArg of a number less than 0, whatever is there.
func TestRemoveOfLessThanNone(t *testing.T) {
	p := pool.New()
	for _, n := range extremes() {
		if n < 0 {
			removeNone(t, p, 0, n, api.ErrArg)
		}
	}
	provide(t, p, 0, 0, 5, 5)
	take(t, p, 0, buf{0, 5})
	for _, n := range extremes() {
		if n < 0 {
			removeNone(t, p, 0, n, api.ErrArg)
		}
	}
	expect(t, p, 0, series(1, 4), []int{0})
}

// P17.2: ErrArg where there is no such group, with any number.
func TestRemoveFromNoGroup(t *testing.T) {
	p := pool.New()
	for group := range 16 {
		provide(t, p, group, 0, 2, 5)
	}
	for _, group := range strangers() {
		for _, n := range append(extremes(), 0, 1, 2, 3) {
			removeNone(t, p, group, n, api.ErrArg)
		}
	}
	for group := range 16 {
		expect(t, p, group, []int{0, 1}, nil)
	}
}

// In one group: the others stay as they are.
func TestRemoveFromEachGroup(t *testing.T) {
	p := pool.New()
	for group := range 16 {
		provide(t, p, group, 0, 20, 5)
	}
	for group := range 16 {
		remove(t, p, group, group+1, group+1)
		for other := range 16 {
			if other <= group {
				expect(t, p, other, series(other+1, 19-other), nil)
			} else {
				expect(t, p, other, series(0, 20), nil)
			}
		}
	}
}

// Numbers that were removed can be provided again, with another size, and there is room for as many.
func TestRemovedCanBeProvidedAgain(t *testing.T) {
	p := pool.New()
	provide(t, p, 5, 0, 1024, 10)
	refuse(t, p, 5, 0, 1, 20, api.ErrSame)
	remove(t, p, 5, 3, 3)
	refuse(t, p, 5, 0, 4, 20, api.ErrSame) // one of them is still there
	refuse(t, p, 5, 3, 1, 20, api.ErrSame)
	refuse(t, p, 5, 2000, 4, 20, api.ErrFull)
	provide(t, p, 5, 0, 3, 20)
	refuse(t, p, 5, 2000, 1, 20, api.ErrFull)
	for id := 3; id < 1024; id++ {
		take(t, p, 5, buf{id, 10})
	}
	for id := range 3 {
		take(t, p, 5, buf{id, 20})
	}
	give(t, p, 5, 7)
	remove(t, p, 5, 1, 1)
	provide(t, p, 5, 7, 1, 30)
	take(t, p, 5, buf{7, 30})
	give(t, p, 5, 7)
	take(t, p, 5, buf{7, 30})
	expect(t, p, 5, nil, series(0, 1024))
}

// All of a group, again and again.
func TestRemoveAndProvideAgainAndAgain(t *testing.T) {
	p := pool.New()
	for round := range 300 {
		count := 1 + round*7%1024
		first := round * 31 % (65536 - count)
		if e := p.Provide(8, first, count, round+1); e != api.OK {
			t.Fatal(round, int(e))
		}
		if id, size, e := p.Take(8); id != first || size != round+1 || e != api.OK {
			t.Fatal(round, id, size, int(e))
		}
		if e := p.Give(8, first); e != api.OK {
			t.Fatal(round, int(e))
		}
		if n, e := p.Remove(8, count+round%2); n != count || e != api.OK {
			t.Fatal(round, n, int(e))
		}
	}
	expect(t, p, 8, nil, nil)
}
