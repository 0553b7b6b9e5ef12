package route_test

import (
	"slices"
	"testing"

	"towrope/api"
)

// chance returns numbers that follow no plain pattern, other ones for each seed.
func chance(seed uint32) func(n int) int {
	return func(n int) int {
		seed = seed*1664525 + 1013904223
		return int(seed>>16) % n
	}
}

// drawn returns a route, out of few networks and costs so that it often is one that is there; now and then one that may not be.
func drawn(next func(n int) int) api.Route {
	bits := []int{0, 1, 2, 7, 8, 9, 16, 24, 31, 32}[next(10)]
	net := []api.Addr{0, ip(10, 0, 0, 0), ip(10, 1, 0, 0), ip(10, 1, 2, 3), 1 << 31, 1<<32 - 1}[next(6)]
	r := way(first(net, bits), bits, next(3))
	r.Via, r.Iface = api.Addr(next(1000)), next(16)
	switch next(60) {
	case 0:
		r.Net++
	case 1:
		r.Bits += 33
	case 2:
		r.Bits = -1
	case 3:
		r.Iface += 16
	case 4:
		r.Cost += 65536
	case 5:
		r.Cost -= 3
	}
	return r
}

// P10.1 and P10.2: long runs of calls, with more added at first and more removed later on
func TestRunsOfCalls(t *testing.T) {
	for seed := range 12 {
		next := chance(uint32(seed) * 2654435761)
		b := with(t)
		most := 0
		for step := range 600 {
			r := drawn(next)
			if next(600) > step/2 {
				_, told := b.list.add(r)
				b.add(r, told)
			} else {
				_, told := b.list.remove(r.Net, r.Bits, r.Cost)
				b.remove(r.Net, r.Bits, r.Cost, told)
			}
			most = max(most, b.table.Len())
			if step%40 == 0 {
				b.check()
			}
			b.at(r.Net)
		}
		b.check()
		if most != api.MaxRoutes {
			t.Errorf("no full table: %d", most)
		}
	}
}

// P10.3: Find returns the first route of Ways
func TestFindIsTheFirstOfWays(t *testing.T) {
	for _, routes := range crowds() {
		for n := range len(routes) + 1 {
			b := with(t, routes[:n]...)
			for _, a := range b.edges() {
				r, e := b.table.Find(a)
				ways := b.table.Ways(a)
				switch {
				case len(ways) == 0:
					if e != api.ErrNone || r != (api.Route{}) {
						t.Fatalf("Find(%x) = %v %d, and no Ways", a, r, e)
					}
				case r != ways[0] || e != api.OK:
					t.Fatalf("Find(%x) = %v %d, Ways begins with %v", a, r, e, ways[0])
				}
			}
		}
	}
}

// P10.3: adding and removing a route leaves the table unchanged
func TestAddAndRemoveChangeNothing(t *testing.T) {
	for _, routes := range crowds() {
		for _, n := range []int{0, 1, 2, 20, 63} {
			b := with(t, routes[:n]...)
			all := b.table.All()
			for bits := range 33 {
				for _, a := range []api.Addr{0, ip(10, 0, 0, 3), ip(10, 1, 2, 3), 1<<32 - 1} {
					r := way(first(a, bits), bits, 50000)
					b.add(r, api.OK)
					b.remove(r.Net, r.Bits, r.Cost, api.OK)
					if now := b.table.All(); !slices.Equal(now, all) {
						t.Fatalf("%v added and removed: %v, and before %v", r, now, all)
					}
				}
			}
			b.check()
		}
	}
}
