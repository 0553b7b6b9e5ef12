package pool_test

import (
	"testing"

	"towrope/api"
	"towrope/pool"
)

// watch is who has which buffers, told from what Take and Give answered alone.
type watch struct {
	t     *testing.T
	p     *pool.Pool
	has   map[[2]int]int // the sizes of the buffers that were taken and not given back, by group and number
	taken int
}

func newWatch(t *testing.T) *watch {
	return &watch{t: t, p: pool.New(), has: map[[2]int]int{}}
}

// takes takes a buffer: nobody has it.
func (w *watch) takes(group int) {
	w.t.Helper()
	id, size, e := w.p.Take(group)
	if e != api.OK {
		return
	}
	key := [2]int{group, id}
	if _, ok := w.has[key]; ok {
		w.t.Fatalf("Take(%d) = %d, which is out", group, id)
	}
	w.has[key] = size
	w.taken++
}

// gives gives back any number: that is done if somebody has it, and else it is not.
func (w *watch) gives(group, id int) {
	w.t.Helper()
	key := [2]int{group, id}
	_, ok := w.has[key]
	if e := w.p.Give(group, id); (e == api.OK) != ok {
		w.t.Fatalf("Give(%d, %d): error %d, and it is out: %v", group, id, int(e), ok)
	}
	delete(w.has, key)
}

// counts compares what is out with what the pool tells of it.
func (w *watch) counts(groups int) {
	w.t.Helper()
	n := 0
	for group := range groups {
		n += w.p.Out(group)
	}
	if n != len(w.has) {
		w.t.Fatalf("%d are out, and the pool tells of %d", len(w.has), n)
	}
	for key := range w.has {
		if state := w.p.State(key[0], key[1]); state != 2 {
			w.t.Fatalf("State(%d, %d) = %d, and it is out", key[0], key[1], state)
		}
	}
}

// P17.4: over long runs of calls no buffer is taken twice without being given back in between, with few buffers and many, whatever is provided and removed meanwhile.
func TestTakenOnce(t *testing.T) {
	for seed := range uint64(48) {
		next := chance(seed)
		groups := 1 + int(seed%3)*7
		ids := 1 << (1 + seed%12)
		w := newWatch(t)
		for step := range 6000 {
			group := next(groups)
			switch next(8) {
			case 0:
				w.p.Provide(group, next(ids), 1+next(1+ids/8), 1+next(50))
			case 1:
				w.p.Remove(group, next(1+ids/8))
			case 2, 3, 4:
				w.takes(group)
			default:
				w.gives(group, next(ids))
			}
			if step%500 == 0 {
				w.counts(groups)
			}
		}
		w.counts(groups)
		if w.taken < 100 {
			t.Errorf("seed %d: %d were taken", seed, w.taken)
		}
	}
}

// P17.4: all buffers of all groups, taken until none is free, given back in part, and taken again.
func TestTakenOnceOfAll(t *testing.T) {
	w := newWatch(t)
	for group := range 16 {
		if e := w.p.Provide(group, group*7, 1024, 1+group); e != api.OK {
			t.Fatal(group, int(e))
		}
	}
	for round := range 5 {
		for i := range 16 * 1025 {
			w.takes(i % 16)
		}
		if len(w.has) != 16*1024 {
			t.Fatalf("round %d: %d are out", round, len(w.has))
		}
		for key, size := range w.has {
			if size != 1+key[0] {
				t.Fatalf("the size of %v is %d", key, size)
			}
		}
		w.counts(16)
		for group := range 16 {
			for id := range 8 * 1024 {
				if id*(round+3)%7 < 4 {
					w.gives(group, id)
				}
			}
		}
		w.counts(16)
	}
}

// P17.4: a number that is out cannot be provided, and so cannot be taken twice that way; removing does not take it away either.
func TestOutIsNotProvidedAgain(t *testing.T) {
	w := newWatch(t)
	for round := range 400 {
		w.p.Provide(0, 0, 8, 1)
		for id := range 8 {
			w.p.Provide(0, id, 1, 2)
		}
		w.takes(0)
		w.p.Remove(0, round%9)
		for id := range 8 {
			w.p.Provide(0, id, 1, 3)
		}
		w.takes(0)
		w.counts(1)
		w.gives(0, round*5%8)
	}
	if w.taken < 300 {
		t.Error(w.taken)
	}
}
