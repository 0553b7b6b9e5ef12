package pool_test

import (
	"testing"

	"towrope/api"
	"towrope/pool"
)

// P17.3: State, Free and Out after each kind of call.
func TestStateAfterEachKindOfCall(t *testing.T) {
	p := pool.New()
	expect(t, p, 13, nil, nil)
	provide(t, p, 13, 40, 3, 9)
	expect(t, p, 13, []int{40, 41, 42}, nil)
	refuse(t, p, 13, 42, 2, 9, api.ErrSame)
	expect(t, p, 13, []int{40, 41, 42}, nil)
	take(t, p, 13, buf{40, 9})
	expect(t, p, 13, []int{41, 42}, []int{40})
	provide(t, p, 13, 0, 1, 9)
	expect(t, p, 13, []int{41, 42, 0}, []int{40})
	take(t, p, 13, buf{41, 9})
	expect(t, p, 13, []int{42, 0}, []int{40, 41})
	giveNone(t, p, 13, 42, api.ErrNone)
	expect(t, p, 13, []int{42, 0}, []int{40, 41})
	give(t, p, 13, 41)
	expect(t, p, 13, []int{42, 0, 41}, []int{40})
	removeNone(t, p, 13, -1, api.ErrArg)
	expect(t, p, 13, []int{42, 0, 41}, []int{40})
	remove(t, p, 13, 2, 2)
	expect(t, p, 13, []int{41}, []int{40})
	take(t, p, 13, buf{41, 9})
	expect(t, p, 13, nil, []int{40, 41})
	takeNone(t, p, 13, api.ErrNone)
	expect(t, p, 13, nil, []int{40, 41})
	give(t, p, 13, 41)
	give(t, p, 13, 40)
	expect(t, p, 13, []int{41, 40}, nil)
	remove(t, p, 13, 9, 2)
	expect(t, p, 13, nil, nil)
	provide(t, p, 13, 65535, 1, 9)
	expect(t, p, 13, []int{65535}, nil)
	take(t, p, 13, buf{65535, 9})
	expect(t, p, 13, nil, []int{65535})
}

// P17.3: of a group that is not there, and of the least and the greatest int as a group and as a number.
func TestStateOfNoGroup(t *testing.T) {
	p := pool.New()
	for group := range 16 {
		provide(t, p, group, 0, 1000, 1)
		take(t, p, group, buf{0, 1})
	}
	for _, group := range strangers() {
		expect(t, p, group, nil, nil)
	}
	for group := range 16 {
		expect(t, p, group, series(1, 999), []int{0})
	}
}

// P17.3: one and the same number may be free in one group, out in another, and in no other.
func TestStateIsThatOfAGroup(t *testing.T) {
	p := pool.New()
	for group := range 16 {
		if group%3 > 0 {
			provide(t, p, group, 77, 1, 1)
		}
		if group%3 > 1 {
			take(t, p, group, buf{77, 1})
		}
	}
	for group := range 16 {
		if got := p.State(group, 77); got != group%3 {
			t.Errorf("State(%d, 77) = %d", group, got)
		}
		if got := len(p.Free(group)); got != []int{0, 1, 0}[group%3] {
			t.Errorf("Free(%d): %d", group, got)
		}
		if got := p.Out(group); got != []int{0, 0, 1}[group%3] {
			t.Errorf("Out(%d) = %d", group, got)
		}
	}
}

// P17.3: Free returns them in the order in which Take then takes them, and Out counts up.
func TestFreeIsTheOrderOfTake(t *testing.T) {
	for seed := range uint64(30) {
		next := chance(seed)
		p := pool.New()
		for range 200 {
			switch next(3) {
			case 0:
				p.Provide(1, next(300), 1+next(9), 1+next(99))
			case 1:
				p.Take(1)
			default:
				p.Give(1, next(300))
			}
		}
		free, out := p.Free(1), p.Out(1)
		for i, want := range free {
			if p.Out(1) != out+i || p.State(1, want) != 1 {
				t.Fatal(seed, i, p.Out(1), p.State(1, want))
			}
			if id, size, e := p.Take(1); id != want || size < 1 || e != api.OK {
				t.Fatalf("seed %d: Take() = %d, %d, error %d, not %d", seed, id, size, int(e), want)
			}
		}
		if id, size, e := p.Take(1); id != 0 || size != 0 || e != api.ErrNone || p.Out(1) != out+len(free) || len(p.Free(1)) != 0 {
			t.Fatal(seed, id, size, int(e), p.Out(1), p.Free(1))
		}
	}
}
