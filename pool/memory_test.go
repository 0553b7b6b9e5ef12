package pool_test

import (
	"slices"
	"testing"

	"towrope/api"
	"towrope/pool"
)

// spoil writes over all of a list, its unused capacity included.
func spoil(l []int) {
	l = l[:cap(l)]
	for i := range l {
		l[i] = -7
	}
}

// What Free returns may be written over: the pool stays as it is, and so does what it returned before or returns later.
func TestResultsAreNewMemory(t *testing.T) {
	for _, count := range []int{1, 2, 3, 5, 8, 17, 1023, 1024} {
		for taken := 0; taken <= count; taken += 1 + count/4 {
			p := pool.New()
			provide(t, p, 1, 100, count, 6)
			for i := range taken {
				take(t, p, 1, buf{100 + i, 6})
			}
			free, out := series(100+taken, count-taken), series(100, taken)
			first := p.Free(1)
			second := p.Free(1)
			spoil(first)
			if !slices.Equal(second, free) {
				t.Fatalf("a Free shares with an earlier one: %v", second)
			}
			expect(t, p, 1, free, out)
			spoil(second)
			expect(t, p, 1, free, out)
			for i := range taken {
				give(t, p, 1, 100+i)
			}
			all := append(slices.Clone(free), out...)
			spoil(p.Free(1))
			expect(t, p, 1, all, nil)
			for _, id := range all {
				take(t, p, 1, buf{id, 6})
			}
		}
	}
}

// What a pool does later does not show in what it returned, and writing behind that does not show in what it does.
func TestResultsStayAsTheyWere(t *testing.T) {
	p := pool.New()
	var had, want [][]int
	next := chance(3)
	for range 3000 {
		switch next(5) {
		case 0:
			p.Provide(2, next(100), 1+next(5), 1)
		case 1, 2:
			p.Take(2)
		case 3:
			p.Give(2, next(100))
		default:
			p.Remove(2, next(3))
		}
		l := p.Free(2)
		had = append(had, l)
		want = append(want, slices.Clone(l))
	}
	was := stateOf(t, p)
	for i := range had {
		if !slices.Equal(had[i], want[i]) {
			t.Fatalf("result %d became %v, was %v", i, had[i], want[i])
		}
		spoil(had[i])
	}
	if got := stateOf(t, p); got != was {
		t.Errorf("%s became %s", was, got)
	}
}

// The lists of two groups, and of two pools, share nothing.
func TestListsOfGroupsShareNothing(t *testing.T) {
	a, b := pool.New(), pool.New()
	for group := range 16 {
		provide(t, a, group, group, 5, 1)
		provide(t, b, group, group, 5, 1)
	}
	for group := range 16 {
		l := a.Free(group)
		spoil(l)
		l = append(l[:0], -1, -2, -3)
		for other := range 16 {
			if got := b.Free(other); !slices.Equal(got, series(other, 5)) {
				t.Errorf("after %d: %v", group, got)
			}
			if got := a.Free(other); !slices.Equal(got, series(other, 5)) {
				t.Errorf("after %d: %v", group, got)
			}
		}
		if !slices.Equal(l, []int{-1, -2, -3}) {
			t.Error(l)
		}
	}
}

// Of a group without free buffers nothing is returned that could be written behind.
func TestResultsOfNothing(t *testing.T) {
	p := pool.New()
	provide(t, p, 0, 0, 3, 1)
	for id := range 3 {
		take(t, p, 0, buf{id, 1})
	}
	for _, group := range []int{0, 1, 15, -1, 16} {
		l := p.Free(group)
		if len(l) != 0 {
			t.Error(group, l)
		}
		spoil(l)
	}
	for id := range 3 {
		give(t, p, 0, id)
	}
	expect(t, p, 0, series(0, 3), nil)
}

// The same calls are answered alike.
func TestSameCallsSameAnswers(t *testing.T) {
	var first []int
	for round := range 5 {
		next := chance(5)
		p := pool.New()
		var all []int
		for range 2000 {
			group := next(3)
			all = append(all, int(p.Provide(group, next(400), 1+next(30), 1+next(9))))
			id, size, e := p.Take(group)
			all = append(all, id, size, int(e), int(p.Give(group, next(400))))
			n, e := p.Remove(group, next(12)-1)
			all = append(all, n, int(e), p.State(group, next(400)), p.Out(group))
			all = append(all, p.Free(group)...)
		}
		if round == 0 {
			first = all
		}
		if !slices.Equal(all, first) {
			t.Fatal("round", round)
		}
	}
	if !slices.Contains(first, int(api.ErrSame)) {
		t.Error("no call was refused")
	}
}
