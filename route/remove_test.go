package route_test

import (
	"math"
	"runtime"
	"slices"
	"testing"

	"towrope/api"
	"towrope/route"
)

// P10.1: Remove, of a route that is there, and of it once more
func TestRemoveOnce(t *testing.T) {
	for _, r := range []api.Route{way(0, 0, 0), way(0, 0, 65535), way(0, 1, 5), way(1<<31, 1, 5), way(ip(10, 0, 0, 0), 8, 3), way(0, 32, 1), way(math.MaxUint32, 32, 9)} {
		b := with(t, r)
		b.remove(r.Net, r.Bits, r.Cost, api.OK)
		b.check()
		b.remove(r.Net, r.Bits, r.Cost, api.ErrNone)
		b.check()
		b.add(r, api.OK)
		b.check()
	}
}

// P10.1: Remove, of routes that are not there though one is that differs in one thing alone
func TestRemoveOfAnother(t *testing.T) {
	b := with(t, way(ip(10, 0, 0, 0), 8, 3), way(ip(10, 0, 0, 0), 10, 3), way(ip(12, 0, 0, 0), 8, 6), way(0, 0, 9), way(0, 32, 9))
	for _, c := range []struct {
		net        api.Addr
		bits, cost int
	}{
		{ip(11, 0, 0, 0), 8, 3}, {ip(8, 0, 0, 0), 8, 3}, {0, 8, 3}, {ip(138, 0, 0, 0), 8, 3},
		{ip(10, 0, 0, 0), 7, 3}, {ip(10, 0, 0, 0), 9, 3}, {ip(10, 0, 0, 0), 11, 3}, {ip(10, 0, 0, 0), 32, 3}, {ip(8, 0, 0, 0), 5, 3}, {0, 0, 3},
		{ip(10, 0, 0, 0), 8, 2}, {ip(10, 0, 0, 0), 8, 4}, {ip(10, 0, 0, 0), 8, 0}, {ip(10, 0, 0, 0), 8, 6}, {ip(10, 0, 0, 0), 8, 9}, {ip(12, 0, 0, 0), 8, 3},
		{0, 1, 9}, {0, 31, 9}, {1, 32, 9}, {1 << 31, 1, 9},
	} {
		b.remove(c.net, c.bits, c.cost, api.ErrNone)
		b.check()
	}
}

// P10.1: Remove, of what no route may have
func TestRemoveOfWhatMayNotBe(t *testing.T) {
	b := with(t, way(0, 0, 0), way(ip(10, 0, 0, 0), 8, 0), way(ip(10, 0, 0, 0), 8, 65535), way(0, 32, 0), way(math.MaxUint32, 32, 0), way(1<<31, 1, 0))
	for _, bits := range []int{-1, -2, -8, -33, 33, 34, 40, 64, 72, 256 + 8, 1<<32 + 8, math.MinInt, math.MaxInt} {
		for _, net := range []api.Addr{0, ip(10, 0, 0, 0), 1 << 31, math.MaxUint32} {
			b.remove(net, bits, 0, api.ErrNone)
		}
	}
	for _, cost := range []int{-1, -65535, 65536, 65536 + 65535, 1 << 32, math.MinInt, math.MaxInt} {
		b.remove(ip(10, 0, 0, 0), 8, cost, api.ErrNone)
		b.remove(0, 0, cost, api.ErrNone)
	}
	for _, r := range []api.Route{{Net: 1}, {Net: 1 << 31}, {Net: math.MaxUint32}, {Net: ip(10, 0, 0, 1), Bits: 8}, {Net: ip(10, 128, 0, 0), Bits: 8}, {Net: 1<<31 + 1, Bits: 1}, {Net: 3 << 30, Bits: 1}} {
		b.remove(r.Net, r.Bits, 0, api.ErrNone)
	}
	b.check()
}

// P10.1: Remove, of one route among those of its network, each cost in turn
func TestRemoveTheOneOfItsCost(t *testing.T) {
	for cost := range 5 {
		b := with(t, way(0, 1, 3), way(0, 1, 0), way(0, 1, 4), way(0, 1, 1), way(0, 1, 2), way(0, 2, cost), way(0, 0, cost))
		b.remove(0, 1, cost, api.OK)
		b.check()
		b.remove(0, 1, cost, api.ErrNone)
		b.check()
	}
}

// orders visits all orders of n things.
func orders(n int, visit func(order []int)) {
	var order []int
	var choose func()
	choose = func() {
		if len(order) == n {
			visit(order)
		}
		for i := range n {
			if !slices.Contains(order, i) {
				order = append(order, i)
				choose()
				order = order[:len(order)-1]
			}
		}
	}
	choose()
}

// P10.1 and P10.2: networks one within another and beside one another, added and removed in all orders
func TestAllOrdersOfRemove(t *testing.T) {
	for _, routes := range [][]api.Route{
		{way(0, 0, 1), way(0, 1, 1), way(0, 2, 1), way(1<<30, 2, 1), way(1<<31, 1, 1), way(3<<30, 2, 1)},
		{way(ip(10, 0, 0, 0), 8, 2), way(ip(10, 0, 0, 0), 8, 1), way(ip(10, 1, 0, 0), 16, 1), way(ip(10, 1, 2, 3), 32, 1), way(ip(10, 1, 2, 2), 32, 1)},
	} {
		orders(len(routes), func(order []int) {
			b := with(t)
			for _, i := range order {
				b.add(routes[i], api.OK)
			}
			b.check()
			for i := range routes {
				b.remove(routes[i].Net, routes[i].Bits, routes[i].Cost, api.OK)
				b.check()
			}
			b = with(t, routes...)
			for _, i := range order {
				b.remove(routes[i].Net, routes[i].Bits, routes[i].Cost, api.OK)
				b.check()
			}
		})
	}
}

// held returns how many bytes the program has in use.
func held() int {
	var m runtime.MemStats
	runtime.GC()
	runtime.ReadMemStats(&m)
	return int(m.HeapAlloc)
}

// What is kept is no more than the promises need: a route that was removed leaves nothing behind.
func TestRemoveLeavesNothingBehind(t *testing.T) {
	table := route.New()
	table.Add(way(0, 0, 1))
	table.Add(way(ip(10, 0, 0, 0), 8, 1))
	before := held()
	for i := range 100000 {
		net := api.Addr(i) * 2654435761
		if table.Add(way(net, 32, 1)) != api.OK || table.Remove(net, 32, 1) != api.OK {
			t.Fatal(i)
		}
	}
	if more := held() - before; more > 4000000 {
		t.Errorf("%d bytes more", more)
	}
	if table.Len() != 2 {
		t.Errorf("Len() = %d", table.Len())
	}
}
