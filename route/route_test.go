package route_test

import (
	"math"
	"slices"
	"testing"

	"towrope/api"
	"towrope/route"
)

// list is a routing table in another way than the program: its routes in the order in which they came.
type list []api.Route

// size returns how many addresses a network has.
func size(bits int) int {
	n := 1
	for range 32 - bits {
		n *= 2
	}
	return n
}

// first returns the first address of the network that contains a.
func first(a api.Addr, bits int) api.Addr { return api.Addr(int(a) - int(a)%size(bits)) }

// contains tells whether an address is one of those of the route's network.
func contains(r api.Route, a api.Addr) bool {
	from := int(r.Net)
	return int(a) >= from && int(a) < from+size(r.Bits)
}

// good tells whether a route may be.
func good(r api.Route) bool {
	if r.Bits < 0 || r.Bits > 32 || int(r.Net)%size(r.Bits) != 0 {
		return false
	}
	return 0 <= r.Iface && r.Iface <= 15 && 0 <= r.Cost && r.Cost <= 65535
}

// place returns the index of a route, or -1.
func (l list) place(net api.Addr, bits, cost int) int {
	for i, r := range l {
		if r.Net == net && r.Bits == bits && r.Cost == cost {
			return i
		}
	}
	return -1
}

// add returns the list with r.
func (l list) add(r api.Route) (list, api.Errno) {
	at := l.place(r.Net, r.Bits, r.Cost)
	switch {
	case !good(r):
		return l, api.ErrArg
	case at >= 0:
		l = slices.Clone(l)
		l[at] = r
		return l, api.OK
	case len(l) == 64:
		return l, api.ErrFull
	}
	return append(slices.Clone(l), r), api.OK
}

// remove returns the list without a route.
func (l list) remove(net api.Addr, bits, cost int) (list, api.Errno) {
	at := l.place(net, bits, cost)
	if at < 0 {
		return l, api.ErrNone
	}
	return slices.Concat(l[:at], l[at+1:]), api.OK
}

// sorted returns the list in order: always the least one of those that are left.
func (l list) sorted(less func(r, s api.Route) bool) []api.Route {
	var told []api.Route
	for left := slices.Clone(l); len(left) > 0; {
		at := 0
		for i := range left {
			if less(left[i], left[at]) {
				at = i
			}
		}
		told = append(told, left[at])
		left = slices.Delete(left, at, at+1)
	}
	return told
}

// all returns all routes as All is to.
func (l list) all() []api.Route {
	return l.sorted(func(r, s api.Route) bool {
		switch {
		case r.Net != s.Net:
			return r.Net < s.Net
		case r.Bits != s.Bits:
			return r.Bits < s.Bits
		}
		return r.Cost < s.Cost
	})
}

// ways returns the routes to an address as Ways is to.
func (l list) ways(a api.Addr) []api.Route {
	var some list
	for _, r := range l {
		if contains(r, a) {
			some = append(some, r)
		}
	}
	return some.sorted(func(r, s api.Route) bool {
		if r.Bits != s.Bits {
			return r.Bits > s.Bits
		}
		return r.Cost < s.Cost
	})
}

// best returns the route to an address as Find is to, with no regard to Ways.
func (l list) best(a api.Addr) (api.Route, api.Errno) {
	found, e := api.Route{}, api.ErrNone
	for _, r := range l {
		if !contains(r, a) {
			continue
		}
		if e == api.ErrNone || r.Bits > found.Bits || r.Bits == found.Bits && r.Cost < found.Cost {
			found, e = r, api.OK
		}
	}
	return found, e
}

// both is a table and the list that tells what is in it.
type both struct {
	t     *testing.T
	table *route.Table
	list  list
}

// with returns a table with these routes, which must be taken.
func with(t *testing.T, routes ...api.Route) *both {
	t.Helper()
	b := &both{t: t, table: route.New()}
	for _, r := range routes {
		b.add(r, api.OK)
	}
	return b
}

// add adds a route to both and wants this answer of each.
func (b *both) add(r api.Route, want api.Errno) {
	b.t.Helper()
	told := api.OK
	b.list, told = b.list.add(r)
	if e := b.table.Add(r); e != want || told != want {
		b.t.Fatalf("Add(%v) = %d, the list says %d, wanted %d, with %v", r, e, told, want, b.list)
	}
}

// remove removes a route from both and wants this answer of each.
func (b *both) remove(net api.Addr, bits, cost int, want api.Errno) {
	b.t.Helper()
	told := api.OK
	b.list, told = b.list.remove(net, bits, cost)
	if e := b.table.Remove(net, bits, cost); e != want || told != want {
		b.t.Fatalf("Remove(%x, %d, %d) = %d, the list says %d, wanted %d, with %v", net, bits, cost, e, told, want, b.list)
	}
}

// check holds all that the table tells against the list.
func (b *both) check() {
	b.t.Helper()
	if n := b.table.Len(); n != len(b.list) {
		b.t.Fatalf("Len() = %d, wanted %d", n, len(b.list))
	}
	if all := b.table.All(); !slices.Equal(all, b.list.all()) {
		b.t.Fatalf("All() = %v, wanted %v", all, b.list.all())
	}
	for _, a := range b.edges() {
		b.at(a)
	}
}

// at holds what the table tells of an address against the list.
func (b *both) at(a api.Addr) {
	b.t.Helper()
	want, told := b.list.best(a)
	if r, e := b.table.Find(a); r != want || e != told {
		b.t.Fatalf("Find(%x) = %v %d, wanted %v %d, with %v", a, r, e, want, told, b.list)
	}
	if ways := b.table.Ways(a); !slices.Equal(ways, b.list.ways(a)) {
		b.t.Fatalf("Ways(%x) = %v, wanted %v", a, ways, b.list.ways(a))
	}
}

// edges returns the addresses at both sides of both ends of each network, and some more.
func (b *both) edges() []api.Addr {
	told := []api.Addr{0, 1, 1 << 31, 1<<31 - 1, math.MaxUint32, 0x0a010203}
	for _, r := range b.list {
		end := r.Net + api.Addr(size(r.Bits)-1)
		told = append(told, r.Net-1, r.Net, r.Net+1, end-1, end, end+1)
	}
	return told
}

// ip returns an address of its four numbers.
func ip(a, b, c, d int) api.Addr { return api.Addr(a*16777216 + b*65536 + c*256 + d) }

// way returns a route with these three and others that follow from them.
func way(net api.Addr, bits, cost int) api.Route {
	return api.Route{Net: net, Bits: bits, Cost: cost, Via: net/3 + api.Addr(bits), Iface: bits % 16}
}

// full returns as many routes as a table has room for, of some networks and costs.
func full() []api.Route {
	var told []api.Route
	for i := range api.MaxRoutes {
		bits := i * 7 % 33
		net := ip(10, i%5, 0, i)
		told = append(told, way(first(net, bits), bits, 1000-i))
	}
	return told
}

// P10.1: New
func TestANewTableIsEmpty(t *testing.T) {
	b := with(t)
	if b.table == nil {
		t.Fatal("New() = nil")
	}
	b.check()
	if r, e := b.table.Find(7); r != (api.Route{}) || e != api.ErrNone {
		t.Errorf("Find: %v %d", r, e)
	}
	if len(b.table.All()) != 0 || len(b.table.Ways(0)) != 0 || b.table.Len() != 0 {
		t.Errorf("%v %v %d", b.table.All(), b.table.Ways(0), b.table.Len())
	}
	b.remove(0, 0, 0, api.ErrNone)
	b.check()
}

// P10.1: New, of one table and another
func TestTablesDoNotAffectOneAnother(t *testing.T) {
	one := with(t, way(0, 0, 1), way(ip(10, 0, 0, 0), 8, 1))
	other := with(t)
	other.check()
	other.add(way(ip(10, 0, 0, 0), 8, 2), api.OK)
	one.check()
	other.check()
	one.remove(0, 0, 1, api.OK)
	other.remove(0, 0, 1, api.ErrNone)
	other.remove(ip(10, 0, 0, 0), 8, 1, api.ErrNone)
	one.check()
	other.check()
	for i := range api.MaxRoutes - 1 {
		one.add(way(0, 7, i), api.OK)
	}
	one.add(way(0, 8, 0), api.ErrFull)
	other.add(way(0, 8, 0), api.OK)
	one.check()
	other.check()
}

// The functions on a nil table, also with arguments for which they have other errors
func TestANilTable(t *testing.T) {
	var none *route.Table
	for _, r := range []api.Route{{}, way(ip(10, 0, 0, 0), 8, 1), {Bits: -1}, {Net: 1}, {Iface: 16}, {Cost: -1}} {
		if e := none.Add(r); e != api.ErrNil {
			t.Errorf("Add(%v) = %d", r, e)
		}
		if e := none.Remove(r.Net, r.Bits, r.Cost); e != api.ErrNil {
			t.Errorf("Remove(%v) = %d", r, e)
		}
	}
	for _, a := range []api.Addr{0, 1, ip(10, 1, 2, 3), math.MaxUint32} {
		if r, e := none.Find(a); r != (api.Route{}) || e != api.ErrNil {
			t.Errorf("Find(%x) = %v %d", a, r, e)
		}
		if ways := none.Ways(a); len(ways) != 0 {
			t.Errorf("Ways(%x) = %v", a, ways)
		}
	}
	if len(none.All()) != 0 || none.Len() != 0 {
		t.Errorf("All() = %v, Len() = %d", none.All(), none.Len())
	}
}

// The chapter's example
func TestTheExample(t *testing.T) {
	wide := api.Route{Net: ip(10, 0, 0, 0), Bits: 8, Via: 1, Iface: 2, Cost: 3}
	narrow := api.Route{Net: ip(10, 1, 0, 0), Bits: 16, Via: 4, Iface: 5, Cost: 6}
	for _, routes := range [][]api.Route{{wide, narrow}, {narrow, wide}} {
		table := with(t, routes...).table
		if r, e := table.Find(ip(10, 1, 2, 3)); r != narrow || e != api.OK {
			t.Errorf("10.1.2.3: %v %d", r, e)
		}
		if r, e := table.Find(ip(10, 2, 0, 1)); r != wide || e != api.OK {
			t.Errorf("10.2.0.1: %v %d", r, e)
		}
	}
}
