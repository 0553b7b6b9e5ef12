package pool_test

import (
	"math"
	"slices"
	"testing"

	"towrope/api"
	"towrope/pool"
)

// bounds are the least and the greatest number that an argument of Provide may be.
type bounds struct{ least, greatest int }

// has tells whether a number may be.
func (b bounds) has(n int) bool { return b.least <= n && n <= b.greatest }

// around are the numbers at both bounds, those next to them, and those that are far off.
func (b bounds) around() []int {
	l := []int{b.least - 1, b.least, b.least + 1, b.greatest - 1, b.greatest, b.greatest + 1, -65536, 1 << 20, 1 << 32, 1<<32 + 1, math.MinInt, math.MinInt + 1, math.MaxInt - 1, math.MaxInt}
	slices.Sort(l)
	return slices.Compact(l)
}

// firsts are the bounds of the first number, of so many.
func firsts(count int) bounds {
	if count < 1 || count > 1024 {
		return bounds{0, 65535}
	}
	return bounds{0, 65536 - count}
}

// allProvisions calls f with arguments of Provide around all their bounds, each with each, and tells whether they may be.
func allProvisions(f func(group, first, count, size int, may bool)) {
	groups, counts, sizes := bounds{0, 15}, bounds{1, 1024}, bounds{1, 65536}
	for _, group := range groups.around() {
		for _, count := range counts.around() {
			for _, first := range firsts(count).around() {
				for _, size := range sizes.around() {
					f(group, first, count, size, groups.has(group) && counts.has(count) && firsts(count).has(first) && sizes.has(size))
				}
			}
		}
	}
}

// P17.1: each argument at its bounds, with each of the others at theirs.
func TestProvideHasItsBounds(t *testing.T) {
	did := 0
	allProvisions(func(group, first, count, size int, may bool) {
		p := pool.New()
		e := p.Provide(group, first, count, size)
		if !may {
			if e != api.ErrArg || len(p.Free(group)) != 0 || p.State(group, first) != 0 {
				t.Errorf("Provide(%d, %d, %d, %d): error %d, not ErrArg", group, first, count, size, int(e))
			}
			return
		}
		did++
		if free := p.Free(group); e != api.OK || !slices.Equal(free, series(first, count)) {
			t.Errorf("Provide(%d, %d, %d, %d): error %d, %v", group, first, count, size, int(e), free)
		}
		if id, got, e := p.Take(group); id != first || got != size || e != api.OK {
			t.Errorf("Provide(%d, %d, %d, %d), and Take() = %d, %d, error %d", group, first, count, size, id, got, int(e))
		}
	})
	if did != 4*4*4*4 {
		t.Errorf("%d could be provided", did)
	}
}

// P17.1: the bounds one by one, as the chapter tells them, and the greatest ones together.
func TestProvideAtItsBounds(t *testing.T) {
	for _, c := range []struct {
		group, first, count, size int
		want                      api.Errno
	}{
		{-1, 0, 1, 1, api.ErrArg}, {0, 0, 1, 1, api.OK}, {15, 0, 1, 1, api.OK}, {16, 0, 1, 1, api.ErrArg},
		{0, 0, -1, 1, api.ErrArg}, {0, 0, 0, 1, api.ErrArg}, {0, 0, 1, 1, api.OK}, {0, 0, 1024, 1, api.OK}, {0, 0, 1025, 1, api.ErrArg},
		{0, -1, 1, 1, api.ErrArg}, {0, 65535, 1, 1, api.OK}, {0, 65536, 1, 1, api.ErrArg},
		{0, -1, 2, 1, api.ErrArg}, {0, 65534, 2, 1, api.OK}, {0, 65535, 2, 1, api.ErrArg},
		{0, -1, 1024, 1, api.ErrArg}, {0, 64512, 1024, 1, api.OK}, {0, 64513, 1024, 1, api.ErrArg},
		{0, 0, 1, -1, api.ErrArg}, {0, 0, 1, 0, api.ErrArg}, {0, 0, 1, 65536, api.OK}, {0, 0, 1, 65537, api.ErrArg},
		{15, 64512, 1024, 65536, api.OK},
		{math.MinInt, 0, 1, 1, api.ErrArg}, {math.MaxInt, 0, 1, 1, api.ErrArg},
		{0, math.MinInt, 1, 1, api.ErrArg}, {0, math.MaxInt, 1, 1, api.ErrArg}, {0, math.MaxInt, 1024, 1, api.ErrArg},
		{0, 0, math.MinInt, 1, api.ErrArg}, {0, 0, math.MaxInt, 1, api.ErrArg}, {0, math.MinInt, math.MinInt, 1, api.ErrArg}, {0, math.MaxInt, math.MaxInt, 1, api.ErrArg}, {0, math.MinInt, math.MaxInt, 1, api.ErrArg}, {0, 65536 - math.MaxInt, math.MaxInt, 1, api.ErrArg},
		{0, 0, 1, math.MinInt, api.ErrArg}, {0, 0, 1, math.MaxInt, api.ErrArg},
	} {
		p := pool.New()
		if c.want != api.OK {
			refuse(t, p, c.group, c.first, c.count, c.size, c.want)
			for group := range 16 {
				expect(t, p, group, nil, nil)
			}
			continue
		}
		provide(t, p, c.group, c.first, c.count, c.size)
		expect(t, p, c.group, series(c.first, c.count), nil)
	}
}

// The greatest pool: each group full of the greatest buffers.
func TestGreatestPool(t *testing.T) {
	p := pool.New()
	for group := range 16 {
		provide(t, p, group, group*4096, 1024, 65536)
		refuse(t, p, group, (group*4096+9999)%60000, 1, 1, api.ErrFull)
	}
	for group := range 16 {
		expect(t, p, group, series(group*4096, 1024), nil)
		for i := range 1024 {
			if id, size, e := p.Take(group); id != group*4096+i || size != 65536 || e != api.OK {
				t.Fatal(group, i, id, size, int(e))
			}
		}
		takeNone(t, p, group, api.ErrNone)
		expect(t, p, group, nil, series(group*4096, 1024))
	}
}

// P17.1: "after all free buffers of the group", whatever their numbers are.
func TestProvideAddsBehindAllOthers(t *testing.T) {
	p := pool.New()
	provide(t, p, 4, 50, 3, 10)
	provide(t, p, 4, 65535, 1, 20)
	provide(t, p, 4, 0, 2, 30)
	provide(t, p, 4, 53, 1, 40)
	provide(t, p, 4, 49, 1, 50)
	expect(t, p, 4, []int{50, 51, 52, 65535, 0, 1, 53, 49}, nil)
	take(t, p, 4, buf{50, 10})
	take(t, p, 4, buf{51, 10})
	provide(t, p, 4, 7, 2, 60)
	give(t, p, 4, 51)
	provide(t, p, 4, 9, 1, 70)
	expect(t, p, 4, []int{52, 65535, 0, 1, 53, 49, 7, 8, 51, 9}, []int{50})
	for _, b := range []buf{{52, 10}, {65535, 20}, {0, 30}, {1, 30}, {53, 40}, {49, 50}, {7, 60}, {8, 60}, {51, 10}, {9, 70}} {
		take(t, p, 4, b)
	}
	takeNone(t, p, 4, api.ErrNone)
}

// Each buffer of a group may have a size of its own, and any number.
func TestEachBufferHasItsSize(t *testing.T) {
	p := pool.New()
	var want []buf
	for i := range 1024 {
		b := buf{i * 30011 % 65536, 1 + i*64}
		if e := p.Provide(9, b.id, 1, b.size); e != api.OK {
			t.Fatal(b, int(e))
		}
		want = append(want, b)
	}
	for range 3 {
		if got := look(t, p, 9); !slices.Equal(got, want) {
			t.Fatalf("%v, not %v", got, want)
		}
	}
}

// All numbers may be had, one after the other.
func TestAllNumbersMayBeHad(t *testing.T) {
	p := pool.New()
	for no := range 64 {
		first := no * 1024
		if e := p.Provide(0, first, 1024, 5); e != api.OK {
			t.Fatal(first, int(e))
		}
		if free := p.Free(0); !slices.Equal(free, series(first, 1024)) {
			t.Fatal(first, free)
		}
		if n, e := p.Remove(0, 1024); n != 1024 || e != api.OK {
			t.Fatal(first, n, int(e))
		}
	}
	expect(t, p, 0, nil, nil)
}

// P17.1: ErrSame, wherever the numbers that are there stand among those that are to be added, free or out.
func TestProvideOfNumbersThatAreThere(t *testing.T) {
	for count := 1; count <= 6; count++ {
		for there := range 1 << count { // a bit for each number that is there
			for taken := range 1 << count { // and one for each that is out
				if taken&^there != 0 {
					continue
				}
				p := pool.New()
				var free, out []int
				for i := range count {
					if there>>i&1 == 1 && taken>>i&1 == 1 {
						p.Provide(6, 100+i, 1, 8)
						p.Take(6)
						out = append(out, 100+i)
					}
				}
				for i := range count {
					if there>>i&1 == 1 && taken>>i&1 == 0 {
						p.Provide(6, 100+i, 1, 8)
						free = append(free, 100+i)
					}
				}
				want := api.ErrSame
				if there == 0 {
					want, free = api.OK, series(100, count)
				}
				if e := p.Provide(6, 100, count, 8); e != want {
					t.Errorf("count %d, there %b, out %b: error %d, not %d", count, there, taken, int(e), int(want))
				}
				if got := p.Free(6); !slices.Equal(got, free) || p.Out(6) != len(out) {
					t.Errorf("count %d, there %b, out %b: %v and %d out, not %v and %v", count, there, taken, got, p.Out(6), free, out)
				}
			}
		}
	}
}

// P17.1: ErrSame of the first, the last, one between, and all, and no error of those next to them.
func TestProvideNextToNumbersThatAreThere(t *testing.T) {
	for _, taken := range []bool{false, true} {
		p := pool.New()
		provide(t, p, 0, 1000, 10, 1)
		free, out := series(1000, 10), []int(nil)
		if taken {
			for _, id := range free {
				take(t, p, 0, buf{id, 1})
			}
			free, out = nil, free
		}
		for _, c := range [][2]int{{1000, 1}, {1009, 1}, {1004, 1}, {1000, 10}, {1003, 4}, {999, 2}, {991, 10}, {1009, 2}, {1009, 600}, {999, 12}, {900, 500}, {401, 600}} {
			refuse(t, p, 0, c[0], c[1], 1, api.ErrSame)
		}
		expect(t, p, 0, free, out)
		provide(t, p, 0, 999, 1, 2)
		provide(t, p, 0, 1010, 1, 3)
		provide(t, p, 0, 989, 10, 4)
		provide(t, p, 0, 1011, 600, 5)
		expect(t, p, 0, join(free, []int{999, 1010}, series(989, 10), series(1011, 600)), out)
	}
}

// The numbers are those of a group: another one may have the same.
func TestProvideOfTheSameNumbersInAnotherGroup(t *testing.T) {
	p := pool.New()
	for group := range 16 {
		provide(t, p, group, 30, 5, 100+group)
		refuse(t, p, group, 30, 5, 100+group, api.ErrSame)
	}
	for group := range 16 {
		for id := 30; id < 35; id++ {
			take(t, p, group, buf{id, 100 + group})
		}
		refuse(t, p, group, 34, 1, 1, api.ErrSame)
		expect(t, p, group, nil, series(30, 5))
	}
}

// P17.1: just MaxBufs, and one more, however they came and whether they are free or out.
func TestProvideUpToTheMost(t *testing.T) {
	for _, parts := range [][]int{{1024}, {1023, 1}, {1, 1023}, {512, 512}, {300, 300, 300, 124}, {1, 1, 1, 1021}} {
		for _, outs := range []int{0, 1, 2, 511, 1023, 1024} {
			p := pool.New()
			first := 0
			for i, count := range parts {
				// One more than there is room for is refused ahead of the last part, too.
				if i == len(parts)-1 && count < 1024 {
					refuse(t, p, 1, first, count+1, 1, api.ErrFull)
				}
				provide(t, p, 1, first, count, i+1)
				first += count
			}
			for range outs {
				p.Take(1)
			}
			for _, count := range []int{1, 2, 1024} {
				refuse(t, p, 1, 2000, count, 1, api.ErrFull)
			}
			expect(t, p, 1, series(outs, 1024-outs), series(0, outs))
			provide(t, p, 2, 0, 1024, 1) // another group has room of its own
		}
	}
}

// Free ones and ones that are out count alike; removed ones do not count.
func TestProvideCountsWhatIsThere(t *testing.T) {
	for taken := 0; taken <= 20; taken += 5 {
		for removed := 0; removed <= 20; removed += 4 {
			p := pool.New()
			p.Provide(5, 0, 1000, 1)
			for range taken {
				p.Take(5)
			}
			remove(t, p, 5, removed, removed)
			room := 24 + removed
			refuse(t, p, 5, 3000, room+1, 1, api.ErrFull)
			provide(t, p, 5, 3000, room, 1)
			refuse(t, p, 5, 5000, 1, 1, api.ErrFull)
			expect(t, p, 5, join(series(taken+removed, 1000-taken-removed), series(3000, room)), series(0, taken))
		}
	}
}

// P17.1, and the rule of the first error: ErrArg, then ErrSame, then ErrFull, with all arguments at their bounds in a group that is full.
func TestFirstErrorOfProvide(t *testing.T) {
	p := pool.New()
	for _, group := range []int{0, 1, 14, 15} {
		p.Provide(group, 65536-100, 100, 1)
		for range 60 {
			p.Take(group)
		}
		p.Provide(group, 0, 924, 1)
	}
	was := stateOf(t, p)
	allProvisions(func(group, first, count, size int, may bool) {
		want := api.ErrArg
		if may {
			want = api.ErrFull
			if first < 924 || first+count > 65536-100 {
				want = api.ErrSame
			}
		}
		if e := p.Provide(group, first, count, size); e != want {
			t.Errorf("Provide(%d, %d, %d, %d): error %d, not %d", group, first, count, size, int(e), int(want))
		}
	})
	if got := stateOf(t, p); got != was {
		t.Errorf("%s became %s", was, got)
	}
	for _, count := range []int{1, 2, 1000, 1024} {
		refuse(t, p, 0, 924, count, 1, api.ErrFull)
		refuse(t, p, 0, 923, count, 1, api.ErrSame)
		refuse(t, p, 0, 65436-count, count, 1, api.ErrFull)
		refuse(t, p, 0, 65437-count, count, 1, api.ErrSame)
	}
}
