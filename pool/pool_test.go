package pool_test

import (
	"fmt"
	"math"
	"slices"
	"testing"

	"towrope/api"
	"towrope/pool"
)

// buf is a buffer: its number and its size.
type buf struct{ id, size int }

// extremes are the least ints, the greatest ones, and some that are less far.
func extremes() []int {
	return []int{math.MinInt, math.MinInt + 1, -1 << 32, -1<<32 + 1, -65537, -65536, -1025, -17, -16, -2, -1, 65536, 65537, 1 << 20, 1 << 32, 1<<32 + 1, math.MaxInt - 1, math.MaxInt}
}

// strangers are numbers of groups that are not there.
func strangers() []int { return append(extremes(), 16, 17, 32, 255, 256, 1024, 65535) }

// series are count numbers, from first on.
func series(first, count int) []int {
	var l []int
	for i := range count {
		l = append(l, first+i)
	}
	return l
}

// bufs are buffers with these numbers and this size.
func bufs(size int, ids ...int) []buf {
	var l []buf
	for _, id := range ids {
		l = append(l, buf{id, size})
	}
	return l
}

// join is one list of several.
func join(lists ...[]int) []int { return slices.Concat(lists...) }

// expect compares all that a pool tells of a group: the free buffers in their order, those that are out in any, and no others.
func expect(t *testing.T, p *pool.Pool, group int, free, out []int) {
	t.Helper()
	if got := p.Free(group); !slices.Equal(got, free) {
		t.Errorf("Free(%d) = %v, not %v", group, got, free)
	}
	if got := p.Out(group); got != len(out) {
		t.Errorf("Out(%d) = %d, not %d", group, got, len(out))
	}
	var states [65536]int
	for state, ids := range [][]int{1: free, 2: out} {
		for _, id := range ids {
			if states[id] != 0 {
				t.Errorf("%d twice in %v and %v", id, free, out)
			}
			states[id] = state
		}
	}
	for id, state := range states {
		if got := p.State(group, id); got != state {
			t.Errorf("State(%d, %d) = %d, not %d", group, id, got, state)
		}
	}
	for _, id := range extremes() {
		if got := p.State(group, id); got != 0 {
			t.Errorf("State(%d, %d) = %d", group, id, got)
		}
	}
}

// look returns the free buffers of a group with their sizes: it takes all, and gives them back in their order.
func look(t *testing.T, p *pool.Pool, group int) []buf {
	t.Helper()
	var l []buf
	for range p.Free(group) {
		id, size, e := p.Take(group)
		if e != api.OK {
			t.Errorf("Take(%d): error %d, and there is one", group, int(e))
		}
		l = append(l, buf{id, size})
	}
	for _, b := range l {
		if e := p.Give(group, b.id); e != api.OK {
			t.Errorf("Give(%d, %d): error %d", group, b.id, int(e))
		}
	}
	return l
}

// stateOf is what a pool tells of all groups.
func stateOf(t *testing.T, p *pool.Pool) string {
	t.Helper()
	var l []any
	for group := range api.MaxGroups {
		l = append(l, p.Free(group), look(t, p, group), p.Out(group))
	}
	return fmt.Sprint(l...)
}

// provide adds buffers, which are there then, behind the others.
func provide(t *testing.T, p *pool.Pool, group, first, count, size int) {
	t.Helper()
	was, out := look(t, p, group), p.Out(group)
	if e := p.Provide(group, first, count, size); e != api.OK {
		t.Errorf("Provide(%d, %d, %d, %d): error %d", group, first, count, size, int(e))
	}
	want := append(was, bufs(size, series(first, count)...)...)
	if got := look(t, p, group); !slices.Equal(got, want) {
		t.Errorf("after Provide(%d, %d, %d, %d): %v, not %v", group, first, count, size, got, want)
	}
	if p.Out(group) != out {
		t.Errorf("after Provide(%d, %d, %d, %d): %d are out, not %d", group, first, count, size, p.Out(group), out)
	}
}

// refuse adds buffers that may not be added: nothing changes.
func refuse(t *testing.T, p *pool.Pool, group, first, count, size int, want api.Errno) {
	t.Helper()
	was := stateOf(t, p)
	if e := p.Provide(group, first, count, size); e != want {
		t.Errorf("Provide(%d, %d, %d, %d): error %d, not %d", group, first, count, size, int(e), int(want))
	}
	if got := stateOf(t, p); got != was {
		t.Errorf("after Provide(%d, %d, %d, %d): %s, not %s", group, first, count, size, got, was)
	}
}

// take takes a buffer, and compares it: it is out then.
func take(t *testing.T, p *pool.Pool, group int, want buf) {
	t.Helper()
	free, out := p.Free(group), p.Out(group)
	id, size, e := p.Take(group)
	if (buf{id, size}) != want || e != api.OK {
		t.Fatalf("Take(%d) = %d, %d, error %d, not %v", group, id, size, int(e), want)
	}
	if got := p.Free(group); len(free) == 0 || free[0] != id || !slices.Equal(got, free[1:]) || p.Out(group) != out+1 || p.State(group, id) != 2 {
		t.Errorf("after Take(%d) = %d of %v: %v, %d out, state %d", group, id, free, got, p.Out(group), p.State(group, id))
	}
}

// takeNone takes a buffer where none can be taken: nothing changes.
func takeNone(t *testing.T, p *pool.Pool, group int, want api.Errno) {
	t.Helper()
	was := stateOf(t, p)
	id, size, e := p.Take(group)
	if id != 0 || size != 0 || e != want {
		t.Errorf("Take(%d) = %d, %d, error %d, not %d", group, id, size, int(e), int(want))
	}
	if got := stateOf(t, p); got != was {
		t.Errorf("after Take(%d): %s, not %s", group, got, was)
	}
}

// give gives a buffer back: it is free then, behind all others.
func give(t *testing.T, p *pool.Pool, group, id int) {
	t.Helper()
	free, out := p.Free(group), p.Out(group)
	if e := p.Give(group, id); e != api.OK {
		t.Errorf("Give(%d, %d): error %d", group, id, int(e))
	}
	if got := p.Free(group); !slices.Equal(got, append(free, id)) || p.Out(group) != out-1 || p.State(group, id) != 1 {
		t.Errorf("after Give(%d, %d) to %v: %v, %d out, state %d", group, id, free, got, p.Out(group), p.State(group, id))
	}
}

// giveNone gives a buffer back that can't be: nothing changes.
func giveNone(t *testing.T, p *pool.Pool, group, id int, want api.Errno) {
	t.Helper()
	was, state := stateOf(t, p), p.State(group, id)
	if e := p.Give(group, id); e != want {
		t.Errorf("Give(%d, %d): error %d, not %d", group, id, int(e), int(want))
	}
	if got := stateOf(t, p); got != was || p.State(group, id) != state {
		t.Errorf("after Give(%d, %d): %s, not %s", group, id, got, was)
	}
}

// remove removes the first free buffers, of which there are so many: they are gone then.
func remove(t *testing.T, p *pool.Pool, group, n, want int) {
	t.Helper()
	free, out := look(t, p, group), p.Out(group)
	if got, e := p.Remove(group, n); got != want || e != api.OK {
		t.Fatalf("Remove(%d, %d) = %d, error %d, not %d", group, n, got, int(e), want)
	}
	if got := look(t, p, group); !slices.Equal(got, free[want:]) || p.Out(group) != out {
		t.Errorf("after Remove(%d, %d) of %v: %v, %d out, not %d", group, n, free, got, p.Out(group), out)
	}
	for _, b := range free[:want] {
		if state := p.State(group, b.id); state != 0 {
			t.Errorf("after Remove(%d, %d): State(%d, %d) = %d", group, n, group, b.id, state)
		}
	}
}

// removeNone removes buffers where that may not be: nothing changes.
func removeNone(t *testing.T, p *pool.Pool, group, n int, want api.Errno) {
	t.Helper()
	was := stateOf(t, p)
	if got, e := p.Remove(group, n); got != 0 || e != want {
		t.Errorf("Remove(%d, %d) = %d, error %d, not %d", group, n, got, int(e), int(want))
	}
	if got := stateOf(t, p); got != was {
		t.Errorf("after Remove(%d, %d): %s, not %s", group, n, got, was)
	}
}

func TestExampleOfTheChapter(t *testing.T) {
	p := pool.New()
	if e := p.Provide(1, 5, 2, 64); e != api.OK {
		t.Error(int(e))
	}
	if id, size, e := p.Take(1); id != 5 || size != 64 || e != api.OK {
		t.Error(id, size, int(e))
	}
	if id, size, e := p.Take(1); id != 6 || size != 64 || e != api.OK {
		t.Error(id, size, int(e))
	}
	if id, size, e := p.Take(1); id != 0 || size != 0 || e != api.ErrNone {
		t.Error(id, size, int(e))
	}
	if e := p.Give(1, 6); e != api.OK {
		t.Error(int(e))
	}
	if id, size, e := p.Take(1); id != 6 || size != 64 || e != api.OK {
		t.Error(id, size, int(e))
	}
	expect(t, p, 1, nil, []int{5, 6})
}

func TestLimitsAndErrorsAreThoseOfTheChapter(t *testing.T) {
	if api.MaxGroups != 16 || api.MaxBufs != 1024 || api.MaxBuf != 65536 {
		t.Error(api.MaxGroups, api.MaxBufs, api.MaxBuf)
	}
	if api.ErrArg != 1 || api.ErrFull != 5 || api.ErrNone != 6 || api.ErrNil != 7 || api.ErrSame != 140 {
		t.Error(int(api.ErrArg), int(api.ErrFull), int(api.ErrNone), int(api.ErrNil), int(api.ErrSame))
	}
}

// P17.1
func TestNewIsWithoutBuffers(t *testing.T) {
	p := pool.New()
	if p == nil {
		t.Fatal("no pool")
	}
	for group := range 16 {
		expect(t, p, group, nil, nil)
		takeNone(t, p, group, api.ErrNone)
		giveNone(t, p, group, 0, api.ErrNone)
		giveNone(t, p, group, 65535, api.ErrNone)
		remove(t, p, group, 0, 0)
		remove(t, p, group, 1, 0)
		remove(t, p, group, math.MaxInt, 0)
		expect(t, p, group, nil, nil)
	}
}

// New is a pure function: what happens to one pool does not show at another.
func TestPoolsDoNotAffectOneAnother(t *testing.T) {
	a, b := pool.New(), pool.New()
	provide(t, a, 3, 10, 3, 100)
	expect(t, b, 3, nil, nil)
	takeNone(t, b, 3, api.ErrNone)
	provide(t, b, 3, 11, 3, 200) // some of the same numbers
	expect(t, a, 3, []int{10, 11, 12}, nil)
	take(t, a, 3, buf{10, 100})
	take(t, a, 3, buf{11, 100})
	expect(t, b, 3, []int{11, 12, 13}, nil)
	giveNone(t, b, 3, 11, api.ErrNone)
	take(t, b, 3, buf{11, 200})
	give(t, a, 3, 11)
	expect(t, b, 3, []int{12, 13}, []int{11})
	remove(t, b, 3, 9, 2)
	expect(t, a, 3, []int{12, 11}, []int{10})
	give(t, b, 3, 11)
	take(t, b, 3, buf{11, 200})
	expect(t, a, 3, []int{12, 11}, []int{10})
	take(t, a, 3, buf{12, 100})
	take(t, a, 3, buf{11, 100})
	expect(t, b, 3, nil, []int{11})
	for group := range 16 {
		expect(t, pool.New(), group, nil, nil)
	}
}

// "On a nil pool, functions with an error return ErrNil, and all others return 0 or nothing."
func TestNilPool(t *testing.T) {
	var p *pool.Pool
	numbers := append(extremes(), 0, 1, 2, 15, 16, 1023, 1024, 1025, 65535)
	for _, group := range numbers {
		if id, size, e := p.Take(group); id != 0 || size != 0 || e != api.ErrNil {
			t.Errorf("Take(%d) = %d, %d, error %d", group, id, size, int(e))
		}
		if l := p.Free(group); l != nil {
			t.Errorf("Free(%d) = %v", group, l)
		}
		if n := p.Out(group); n != 0 {
			t.Errorf("Out(%d) = %d", group, n)
		}
		for _, n := range numbers {
			for _, l := range [][3]int{{0, 1, n}, {0, n, 1}, {n, 1, 1}, {n, n, n}} {
				if e := p.Provide(group, l[0], l[1], l[2]); e != api.ErrNil {
					t.Errorf("Provide(%d, %v): error %d", group, l, int(e))
				}
			}
			if e := p.Give(group, n); e != api.ErrNil {
				t.Errorf("Give(%d, %d): error %d", group, n, int(e))
			}
			if got, e := p.Remove(group, n); got != 0 || e != api.ErrNil {
				t.Errorf("Remove(%d, %d) = %d, error %d", group, n, got, int(e))
			}
			if state := p.State(group, n); state != 0 {
				t.Errorf("State(%d, %d) = %d", group, n, state)
			}
		}
	}
}

// The groups are apart: what happens in one does not show in another.
func TestGroupsDoNotAffectOneAnother(t *testing.T) {
	p := pool.New()
	for group := range 16 {
		provide(t, p, group, 7, 3, group+1)
	}
	for group := range 16 {
		take(t, p, group, buf{7, group + 1})
		take(t, p, group, buf{8, group + 1})
		give(t, p, group, 7)
		remove(t, p, group, 1, 1)
		for other := range 16 {
			if other <= group {
				expect(t, p, other, []int{7}, []int{8})
			} else {
				expect(t, p, other, []int{7, 8, 9}, nil)
			}
		}
	}
	for group := range 16 {
		take(t, p, group, buf{7, group + 1})
		takeNone(t, p, group, api.ErrNone)
	}
}

// What is asked of a pool does not change it.
func TestAskingChangesNothing(t *testing.T) {
	p := pool.New()
	provide(t, p, 2, 0, 6, 9)
	take(t, p, 2, buf{0, 9})
	take(t, p, 2, buf{1, 9})
	give(t, p, 2, 0)
	for range 10 {
		for _, n := range append(extremes(), 0, 1, 2, 3, 15, 16) {
			p.Free(n)
			p.Out(n)
			p.State(2, n)
			p.State(n, 1)
			p.Remove(2, 0)
		}
		expect(t, p, 2, []int{2, 3, 4, 5, 0}, []int{1})
		for group := range 16 {
			if group != 2 {
				expect(t, p, group, nil, nil)
			}
		}
	}
	for _, id := range []int{2, 3, 4, 5, 0} {
		take(t, p, 2, buf{id, 9})
	}
}
