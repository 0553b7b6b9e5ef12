package route_test

import (
	"slices"
	"testing"

	"towrope/api"
)

// spoil writes over all of a slice, its unused capacity included.
func spoil(routes []api.Route) {
	routes = routes[:cap(routes)]
	for i := range routes {
		routes[i] = api.Route{Net: 1, Bits: 99, Via: 2, Iface: 99, Cost: -1}
	}
}

// Memory: what is written into an answer, or behind it, is not seen in the table
func TestAnswersAreNotOfTheTable(t *testing.T) {
	for _, routes := range crowds() {
		for _, n := range []int{0, 1, 2, 3, 5, 64} {
			b := with(t, routes[:n]...)
			spoil(b.table.All())
			b.check()
			for _, a := range b.edges() {
				spoil(b.table.Ways(a))
			}
			b.check()
		}
	}
}

// Memory: what is written into an answer, or behind it, is not seen in another one
func TestAnswersAreNotOfOneAnother(t *testing.T) {
	b := with(t, full()...)
	a := ip(10, 1, 0, 1)
	for i := range 4 {
		answers := [][]api.Route{b.table.All(), b.table.Ways(a), b.table.All(), b.table.Ways(a)}
		spoil(answers[i])
		for j, want := range [][]api.Route{b.list.all(), b.list.ways(a), b.list.all(), b.list.ways(a)} {
			if i != j && !slices.Equal(answers[j], want) {
				t.Errorf("answer %d written into, %d is %v, wanted %v", i, j, answers[j], want)
			}
		}
	}
}

// Memory: an answer stays as it is whatever becomes of the table
func TestAnswersStay(t *testing.T) {
	b := with(t, full()[:20]...)
	a := ip(10, 1, 0, 1)
	all, ways := b.table.All(), b.table.Ways(a)
	wantAll, wantWays := b.list.all(), b.list.ways(a)
	for _, r := range full()[:20] {
		r.Via, r.Iface = 5, 5
		b.add(r, api.OK)
	}
	for _, r := range full()[20:] {
		b.add(r, api.OK)
	}
	for _, r := range full() {
		b.remove(r.Net, r.Bits, r.Cost, api.OK)
	}
	if !slices.Equal(all, wantAll) || !slices.Equal(ways, wantWays) {
		t.Errorf("%v %v", all, ways)
	}
}

// Determinism: asking changes nothing, and tables of the same calls answer the same
func TestAskingChangesNothing(t *testing.T) {
	one, other := with(t, full()...), with(t, full()...)
	for _, a := range one.edges() {
		one.at(a)
		one.at(a)
	}
	one.check()
	one.check()
	other.check()
	if !slices.Equal(one.table.All(), other.table.All()) {
		t.Error("other routes")
	}
}
