package route_test

import (
	"math"
	"slices"
	"testing"

	"towrope/api"
)

// P10.2: Find and Ways of addresses to which there is no route
func TestNoRoute(t *testing.T) {
	b := with(t, way(ip(10, 0, 0, 0), 8, 1), way(ip(192, 168, 1, 0), 24, 1), way(ip(1, 2, 3, 4), 32, 1))
	for _, a := range []api.Addr{0, 1, ip(9, 255, 255, 255), ip(11, 0, 0, 0), ip(138, 0, 0, 0), ip(192, 168, 0, 255), ip(192, 168, 2, 0), ip(1, 2, 3, 3), ip(1, 2, 3, 5), ip(129, 2, 3, 4), math.MaxUint32} {
		if r, e := b.table.Find(a); r != (api.Route{}) || e != api.ErrNone {
			t.Errorf("Find(%x) = %v %d", a, r, e)
		}
		if ways := b.table.Ways(a); len(ways) != 0 {
			t.Errorf("Ways(%x) = %v", a, ways)
		}
	}
	b.check()
}

// P10.2: Find and Ways with the network of 0 bits, which contains all addresses
func TestTheNetworkOfAll(t *testing.T) {
	r := api.Route{Via: 3, Iface: 2, Cost: 1}
	b := with(t, r)
	for _, a := range []api.Addr{0, 1, 1<<31 - 1, 1 << 31, ip(10, 1, 2, 3), math.MaxUint32} {
		if got, e := b.table.Find(a); got != r || e != api.OK {
			t.Errorf("Find(%x) = %v %d", a, got, e)
		}
		if ways := b.table.Ways(a); !slices.Equal(ways, []api.Route{r}) {
			t.Errorf("Ways(%x) = %v", a, ways)
		}
	}
}

// P10.2: Find and Ways with networks of 32 bits, which contain one address
func TestNetworksOfOneAddress(t *testing.T) {
	for _, a := range []api.Addr{0, 1, 1<<31 - 1, 1 << 31, ip(10, 1, 2, 3), math.MaxUint32 - 1, math.MaxUint32} {
		b := with(t, way(a, 32, 1))
		b.check()
		for place := range 32 {
			b.at(a ^ 1<<place)
			if _, e := b.table.Find(a ^ 1<<place); e != api.ErrNone {
				t.Errorf("Find(%x) with a route to %x alone: %d", a^1<<place, a, e)
			}
		}
		b.add(way(a^1, 32, 2), api.OK)
		b.add(way(a^1<<31, 32, 3), api.OK)
		b.check()
	}
}

// P10.2: Find and Ways with networks of all Bits one within another
func TestAllBitsWithinOneAnother(t *testing.T) {
	for _, a := range []api.Addr{0, math.MaxUint32, ip(10, 1, 2, 3), 0xaaaaaaaa, 0x55555555} {
		b := with(t)
		for i := range 33 {
			bits := i * 5 % 33
			b.add(way(first(a, bits), bits, i), api.OK)
		}
		b.check()
		ways := b.table.Ways(a)
		for i, r := range ways {
			if r.Bits != 32-i {
				t.Errorf("Ways(%x)[%d] = %v", a, i, r)
			}
		}
		for place := range 32 {
			other := a ^ 1<<place
			b.at(other)
			if r, e := b.table.Find(other); r.Bits != 31-place || e != api.OK {
				t.Errorf("Find(%x) = %v %d", other, r, e)
			}
		}
	}
}

// P10.2: Find and Ways with several costs, which count only where Bits are equal
func TestCostsOfOneNetwork(t *testing.T) {
	wide, narrow := ip(10, 0, 0, 0), ip(10, 1, 0, 0)
	b := with(t, way(wide, 8, 0), way(narrow, 16, 65535), way(narrow, 16, 7), way(wide, 8, 9), way(narrow, 16, 300), way(wide, 8, 2))
	b.check()
	want := []api.Route{way(narrow, 16, 7), way(narrow, 16, 300), way(narrow, 16, 65535), way(wide, 8, 0), way(wide, 8, 2), way(wide, 8, 9)}
	if ways := b.table.Ways(ip(10, 1, 2, 3)); !slices.Equal(ways, want) {
		t.Errorf("Ways: %v", ways)
	}
	if r, e := b.table.Find(ip(10, 1, 2, 3)); r != want[0] || e != api.OK {
		t.Errorf("Find: %v %d", r, e)
	}
	if ways := b.table.Ways(ip(10, 2, 0, 1)); !slices.Equal(ways, want[3:]) {
		t.Errorf("Ways: %v", ways)
	}
	b.remove(narrow, 16, 7, api.OK)
	if r, e := b.table.Find(ip(10, 1, 2, 3)); r != want[1] || e != api.OK {
		t.Errorf("Find: %v %d", r, e)
	}
	b.check()
}

// P10.2: all orders of adding the costs of one network
func TestCostsInAllOrders(t *testing.T) {
	costs := []int{0, 1, 300, 40000, 65535}
	orders(len(costs), func(order []int) {
		b := with(t)
		for _, i := range order {
			b.add(way(ip(10, 0, 0, 0), 8, costs[i]), api.OK)
		}
		b.check()
	})
}

// P10.2: Find and Ways after a network was removed whose narrower or wider ones stay
func TestAMiddleNetworkIsRemoved(t *testing.T) {
	routes := []api.Route{way(0, 0, 1), way(ip(10, 0, 0, 0), 8, 1), way(ip(10, 1, 0, 0), 16, 1), way(ip(10, 1, 2, 0), 24, 1), way(ip(10, 1, 2, 3), 32, 1)}
	for set := range 1 << len(routes) {
		b := with(t, routes...)
		for i, r := range routes {
			if set>>i&1 == 1 {
				b.remove(r.Net, r.Bits, r.Cost, api.OK)
			}
		}
		b.check()
		for i, r := range routes {
			if set>>i&1 == 1 {
				b.remove(r.Net, r.Bits, r.Cost, api.ErrNone)
				b.add(r, api.OK)
			}
		}
		b.check()
	}
}

// P10.2: all sets of the networks of up to 3 bits, held at the ends of all of them
func TestAllSetsOfWideNetworks(t *testing.T) {
	var routes []api.Route
	for bits := range 4 {
		for i := range 1 << bits {
			routes = append(routes, way(api.Addr(i*size(bits)), bits, bits))
		}
	}
	for set := range 1 << len(routes) {
		b := with(t)
		for i, r := range routes {
			if set>>i&1 == 1 {
				b.list = append(b.list, r)
				if b.table.Add(r) != api.OK {
					t.Fatal(r)
				}
			}
		}
		if set%16 == 0 {
			b.check()
		}
		for i := range 8 {
			b.at(api.Addr(i * size(3)))
			b.at(api.Addr(i*size(3) + size(3) - 1))
		}
	}
}

// P10.2: All, in its order
func TestTheOrderOfAll(t *testing.T) {
	want := []api.Route{
		way(0, 0, 0), way(0, 0, 1), way(0, 0, 65535), way(0, 1, 0), way(0, 1, 2), way(0, 8, 0), way(0, 32, 0), way(1, 32, 0), way(2, 31, 5), way(2, 32, 1), way(2, 32, 6),
		way(ip(10, 0, 0, 0), 7, 9), way(ip(10, 0, 0, 0), 8, 3), way(ip(10, 0, 0, 0), 16, 2), way(ip(10, 1, 0, 0), 16, 1), way(ip(127, 255, 255, 255), 32, 7),
		way(1<<31, 1, 4), way(1<<31, 2, 3), way(1<<31, 32, 2), way(3<<30, 2, 1), way(math.MaxUint32-1, 31, 2), way(math.MaxUint32, 32, 1),
	}
	for step := 1; step < len(want); step++ {
		b := with(t)
		for i := range 23 {
			if at := (i*step + step) % 23; at < len(want) {
				b.add(want[at], api.OK)
			}
		}
		if all := b.table.All(); !slices.Equal(all, want) {
			t.Fatalf("All() = %v, wanted %v", all, want)
		}
		b.check()
	}
}

// P10.2: Len, after each kind of call
func TestLen(t *testing.T) {
	b := with(t)
	wants := func(n int) {
		t.Helper()
		if got := b.table.Len(); got != n {
			t.Fatalf("Len() = %d, wanted %d", got, n)
		}
	}
	wants(0)
	b.add(way(0, 0, 1), api.OK)
	wants(1)
	b.add(way(0, 0, 1), api.OK)
	wants(1)
	b.add(way(0, 0, 2), api.OK)
	wants(2)
	b.add(way(1, 0, 2), api.ErrArg)
	wants(2)
	b.remove(0, 0, 3, api.ErrNone)
	wants(2)
	b.table.Find(0)
	b.table.Ways(0)
	b.table.All()
	wants(2)
	b.remove(0, 0, 1, api.OK)
	wants(1)
	b.remove(0, 0, 1, api.ErrNone)
	wants(1)
	b.remove(0, 0, 2, api.OK)
	wants(0)
	for i, r := range full() {
		b.add(r, api.OK)
		wants(i + 1)
	}
	b.add(way(0, 0, 9), api.ErrFull)
	wants(64)
	b.check()
}
