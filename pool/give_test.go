package pool_test

import (
	"testing"

	"towrope/api"
	"towrope/pool"
)

// P17.2: a buffer that is out is free again, behind all others, with the size that it had.
func TestGiveOfWhatIsOut(t *testing.T) {
	for no := range 4 {
		p := pool.New()
		for i := range 4 {
			provide(t, p, 2, 10*i, 1, 100+i)
		}
		provide(t, p, 2, 90, 2, 7)
		for i := range 4 {
			take(t, p, 2, buf{10 * i, 100 + i})
		}
		give(t, p, 2, 10*no)
		var out []int
		for i := range 4 {
			if i != no {
				out = append(out, 10*i)
			}
		}
		expect(t, p, 2, []int{90, 91, 10 * no}, out)
		giveNone(t, p, 2, 10*no, api.ErrNone) // it is free now
		expect(t, p, 2, []int{90, 91, 10 * no}, out)
		take(t, p, 2, buf{90, 7})
		take(t, p, 2, buf{91, 7})
		take(t, p, 2, buf{10 * no, 100 + no})
		takeNone(t, p, 2, api.ErrNone)
	}
}

// The size stays, however often a buffer is taken and given back, and whatever is provided in between.
func TestGiveKeepsTheSize(t *testing.T) {
	p := pool.New()
	sizes := []int{65536, 1, 2, 4096, 65535}
	for id, size := range sizes {
		provide(t, p, 15, id, 1, size)
	}
	for round := range 20 {
		for id, size := range sizes {
			take(t, p, 15, buf{id, size})
		}
		for id := range sizes {
			give(t, p, 15, id)
		}
		provide(t, p, 15, 50, 1, round+1)
		for id, size := range sizes {
			take(t, p, 15, buf{id, size})
			give(t, p, 15, id)
		}
		remove(t, p, 15, 1, 1)
		expect(t, p, 15, series(0, 5), nil)
	}
}

// P17.2: ErrNone of a number that is free, of one that was never there, of one that was removed, and of one of another group.
func TestGiveOfWhatIsNotOut(t *testing.T) {
	p := pool.New()
	provide(t, p, 3, 0, 10, 5)
	provide(t, p, 4, 20, 10, 5)
	for i := range 10 {
		take(t, p, 4, buf{20 + i, 5})
	}
	for id := range 10 {
		giveNone(t, p, 3, id, api.ErrNone) // free
	}
	for id := range 10 {
		giveNone(t, p, 3, 20+id, api.ErrNone) // out, but of another group
		giveNone(t, p, 4, id, api.ErrNone)    // free, and of another group
	}
	for _, id := range append(extremes(), 10, 11, 19, 30, 65535) {
		giveNone(t, p, 3, id, api.ErrNone) // never there
		giveNone(t, p, 4, id, api.ErrNone)
		giveNone(t, p, 0, id, api.ErrNone)
	}
	take(t, p, 3, buf{0, 5})
	remove(t, p, 3, 4, 4)
	for id := 1; id <= 4; id++ {
		giveNone(t, p, 3, id, api.ErrNone) // removed
	}
	expect(t, p, 3, series(5, 5), []int{0})
	give(t, p, 3, 0)
	remove(t, p, 3, 6, 6)
	giveNone(t, p, 3, 0, api.ErrNone) // given back, and removed then
	expect(t, p, 3, nil, nil)
	expect(t, p, 4, nil, series(20, 10))
}

// P17.2: ErrArg where there is no such group, also of numbers that are out in a group.
func TestGiveToNoGroup(t *testing.T) {
	p := pool.New()
	for group := range 16 {
		provide(t, p, group, 0, 3, 5)
		take(t, p, group, buf{0, 5})
	}
	for _, group := range strangers() {
		for _, id := range []int{-1, 0, 1, 2, 3, 65535, 65536} {
			giveNone(t, p, group, id, api.ErrArg)
		}
		for _, id := range extremes() {
			if e := p.Give(group, id); e != api.ErrArg {
				t.Errorf("Give(%d, %d): error %d", group, id, int(e))
			}
		}
	}
	for group := range 16 {
		expect(t, p, group, []int{1, 2}, []int{0})
	}
}

// A number that is out in several groups is given back in one of them.
func TestGiveInOneGroupOfSeveral(t *testing.T) {
	p := pool.New()
	for group := range 16 {
		provide(t, p, group, 9, 1, group+1)
		take(t, p, group, buf{9, group + 1})
	}
	for group := range 16 {
		give(t, p, group, 9)
		for other := range 16 {
			if other <= group {
				expect(t, p, other, []int{9}, nil)
			} else {
				expect(t, p, other, nil, []int{9})
			}
		}
	}
	for group := range 16 {
		take(t, p, group, buf{9, group + 1})
	}
}

// A full group takes back what is out: no room is needed for that.
func TestGiveToAFullGroup(t *testing.T) {
	p := pool.New()
	provide(t, p, 0, 0, 1024, 2)
	for id := range 1024 {
		take(t, p, 0, buf{id, 2})
	}
	refuse(t, p, 0, 2000, 1, 1, api.ErrFull)
	for id := 1023; id >= 0; id-- {
		give(t, p, 0, id)
	}
	refuse(t, p, 0, 2000, 1, 1, api.ErrFull)
	for id := 1023; id >= 0; id-- {
		take(t, p, 0, buf{id, 2})
	}
	takeNone(t, p, 0, api.ErrNone)
}
