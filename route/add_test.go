package route_test

import (
	"math"
	"testing"

	"towrope/api"
)

// P10.1: Add, of all Bits
func TestAddTakesBitsFrom0To32(t *testing.T) {
	for _, bits := range []int{-1, -2, -32, -33, 33, 34, 64, 65, 256, 1 << 32, math.MinInt, math.MaxInt, math.MinInt32, math.MaxInt32} {
		b := with(t)
		for _, net := range []api.Addr{0, 1, 1 << 31, math.MaxUint32} {
			b.add(api.Route{Net: net, Bits: bits}, api.ErrArg)
		}
		b.check()
	}
	for bits := range 33 {
		b := with(t, way(0, bits, 0))
		b.check()
		b.add(way(-api.Addr(size(bits)), bits, 1), api.OK)
		b.check()
	}
}

// P10.1: Add, of a Net with each one of its bits, alone and behind bits that are set
func TestAddTakesNoNetWithLowerBits(t *testing.T) {
	for bits := range 33 {
		b := with(t)
		ones := -api.Addr(size(bits))
		for place := range 32 {
			one := api.Addr(1) << (31 - place)
			if place < bits {
				b.add(way(one, bits, 0), api.OK)
				continue
			}
			for _, net := range []api.Addr{one, ones | one, one | 1} {
				b.add(way(net, bits, 0), api.ErrArg)
			}
		}
		b.check()
	}
}

// P10.1: Add, of Iface and of Cost
func TestAddTakesIfacesAndCostsInTheirRange(t *testing.T) {
	for _, c := range []struct {
		iface, cost int
		want        api.Errno
	}{
		{-1, 7, api.ErrArg}, {0, 7, api.OK}, {1, 7, api.OK}, {api.MaxIfaces - 1, 7, api.OK}, {api.MaxIfaces, 7, api.ErrArg},
		{256, 7, api.ErrArg}, {1 << 32, 7, api.ErrArg}, {math.MinInt, 7, api.ErrArg}, {math.MaxInt, 7, api.ErrArg},
		{7, -1, api.ErrArg}, {7, 0, api.OK}, {7, 1, api.OK}, {7, 32768, api.OK}, {7, 65535, api.OK}, {7, 65536, api.ErrArg},
		{7, 1 << 32, api.ErrArg}, {7, math.MinInt, api.ErrArg}, {7, math.MaxInt, api.ErrArg},
		{0, 65535, api.OK}, {15, 0, api.OK}, {-1, -1, api.ErrArg}, {16, 65536, api.ErrArg},
	} {
		for _, bits := range []int{0, 8, 32} {
			b := with(t)
			b.add(api.Route{Net: 0, Bits: bits, Iface: c.iface, Cost: c.cost, Via: 9}, c.want)
			b.check()
		}
	}
}

// P10.1: Add, of any Via
func TestAddTakesEveryVia(t *testing.T) {
	for _, via := range []api.Addr{0, 1, ip(10, 0, 0, 1), ip(127, 0, 0, 1), ip(224, 0, 0, 1), math.MaxUint32} {
		b := with(t, api.Route{Net: ip(10, 0, 0, 0), Bits: 8, Via: via})
		b.check()
		if r, e := b.table.Find(ip(10, 9, 9, 9)); r.Via != via || e != api.OK {
			t.Errorf("%v %d", r, e)
		}
	}
}

// P10.1: Add, of a route with the same Net, Bits and Cost
func TestAddReplaces(t *testing.T) {
	for _, r := range []api.Route{way(0, 0, 0), way(0, 0, 65535), way(ip(10, 0, 0, 0), 8, 3), way(ip(10, 1, 0, 0), 16, 0), way(math.MaxUint32, 32, 9)} {
		b := with(t, r)
		for _, other := range []api.Route{
			{Net: r.Net, Bits: r.Bits, Cost: r.Cost, Via: r.Via + 1, Iface: r.Iface},
			{Net: r.Net, Bits: r.Bits, Cost: r.Cost, Via: r.Via, Iface: 15 - r.Iface},
			{Net: r.Net, Bits: r.Bits, Cost: r.Cost},
			r, r,
		} {
			b.add(other, api.OK)
			b.check()
			if b.table.Len() != 1 || b.table.All()[0] != other {
				t.Fatalf("%v: %v", other, b.table.All())
			}
		}
	}
}

// P10.1: Add, of routes that differ in one of Net, Bits and Cost
func TestAddKeepsRoutesThatDiffer(t *testing.T) {
	b := with(t)
	for i, r := range []api.Route{
		way(ip(10, 0, 0, 0), 8, 3), way(ip(10, 0, 0, 0), 8, 4), way(ip(10, 0, 0, 0), 8, 2), way(ip(10, 0, 0, 0), 9, 3),
		way(ip(10, 0, 0, 0), 7, 3), way(ip(11, 0, 0, 0), 8, 3), way(ip(9, 0, 0, 0), 8, 3), way(0, 8, 3), way(0, 0, 3),
	} {
		b.add(r, api.OK)
		b.check()
		if n := b.table.Len(); n != i+1 {
			t.Fatalf("Len() = %d behind %d routes", n, i+1)
		}
	}
}

// P10.1: Add, of one that replaces a route among several of its network
func TestAddReplacesTheOneOfItsCost(t *testing.T) {
	for cost := range 5 {
		b := with(t, way(0, 1, 3), way(0, 1, 0), way(0, 1, 4), way(0, 1, 1), way(0, 1, 2), way(0, 2, cost), way(0, 0, cost))
		b.add(api.Route{Net: 0, Bits: 1, Cost: cost, Via: 77, Iface: 7}, api.OK)
		b.check()
	}
}

// crowds are tables without room, each of other networks.
func crowds() [][]api.Route {
	var alone, costs, nested, byBits []api.Route
	for i := range api.MaxRoutes {
		alone = append(alone, way(ip(10, 0, 0, i), 32, 1))
		costs = append(costs, way(ip(10, 0, 0, 0), 8, 65535-i*3))
		nested = append(nested, way(0, i/2, i))
		byBits = append(byBits, way(-api.Addr(size(i%33)), i%33, i/33))
	}
	return [][]api.Route{full(), alone, costs, nested, byBits}
}

// P10.1: Add, of one route more than there may be
func TestAddIsFull(t *testing.T) {
	for _, routes := range crowds() {
		b := with(t, routes[:api.MaxRoutes-1]...)
		b.check()
		b.add(routes[api.MaxRoutes-1], api.OK)
		b.check()
		for _, r := range []api.Route{way(0, 0, 40000), way(ip(200, 0, 0, 0), 8, 1), way(ip(10, 0, 0, 0), 8, 40000), way(ip(10, 0, 0, 200), 32, 1), way(routes[0].Net, routes[0].Bits, 40000)} {
			b.add(r, api.ErrFull)
			b.check()
			b.remove(r.Net, r.Bits, r.Cost, api.ErrNone)
		}
	}
}

// P10.1: Add, of one that replaces a route of a table without room
func TestAddReplacesInAFullTable(t *testing.T) {
	for _, routes := range crowds() {
		b := with(t, routes...)
		for i, r := range routes {
			b.add(api.Route{Net: r.Net, Bits: r.Bits, Cost: r.Cost, Via: api.Addr(i), Iface: i % 16}, api.OK)
		}
		b.check()
		b.add(way(ip(200, 0, 0, 0), 8, 1), api.ErrFull)
		b.check()
	}
}

// P10.1: Add, where there is room again
func TestAddHasRoomAfterRemove(t *testing.T) {
	for _, routes := range crowds() {
		b := with(t, routes...)
		for i, r := range routes {
			more := way(ip(200, i, 0, 0), 16, i)
			b.add(more, api.ErrFull)
			b.remove(r.Net, r.Bits, r.Cost, api.OK)
			b.add(more, api.OK)
			b.add(r, api.ErrFull)
			if i%8 == 0 {
				b.check()
			}
		}
		b.check()
	}
}

// The first error of Add: each argument as it may be or not, in tables with and without room, of routes that are there but for what may not be
func TestTheFirstErrorOfAdd(t *testing.T) {
	for _, routes := range [][]api.Route{nil, {way(ip(10, 0, 0, 0), 8, 1)}, full()} {
		b := with(t, routes...)
		for _, bits := range []int{-1, 8, 33} {
			for _, net := range []api.Addr{ip(10, 0, 0, 0), ip(10, 0, 0, 1), ip(10, 128, 0, 0)} {
				for _, iface := range []int{-1, 3, 16} {
					for _, cost := range []int{-1, 1, 2, 65536} {
						b.add(api.Route{Net: net, Bits: bits, Iface: iface, Cost: cost}, b.wanted(net, bits, iface, cost))
					}
				}
			}
		}
		b.check()
	}
}

// wanted tells the error in the order of the chapter: what may not be, then no room.
func (b *both) wanted(net api.Addr, bits, iface, cost int) api.Errno {
	if bits != 8 || net != ip(10, 0, 0, 0) || iface != 3 || cost < 0 || cost > 65535 {
		return api.ErrArg
	}
	for _, r := range b.list {
		if r.Net == net && r.Bits == 8 && r.Cost == cost {
			return api.OK
		}
	}
	if len(b.list) == 64 {
		return api.ErrFull
	}
	return api.OK
}
