package reasm_test

import (
	"fmt"
	"testing"

	"towrope/api"
	"towrope/frag"
	"towrope/reasm"
)

// packet is one of so many bytes, with options of which some are carried.
func packet(opts []byte, n int) api.IP {
	return with(part(0, false, n, uint32(n)), func(p *api.IP) { p.Opts = opts })
}

// divided are the fragments of p.
func divided(t *testing.T, p api.IP, mtu int) []api.IP {
	t.Helper()
	l, e := frag.Split(p, mtu)
	if e != api.OK {
		t.Fatal("Split:", int(e))
	}
	return l
}

// further divides each fragment whose number has a bit in some again.
func further(t *testing.T, l []api.IP, mtu, some int) []api.IP {
	t.Helper()
	var all []api.IP
	for no, p := range l {
		if some>>(no%8)&1 != 0 {
			all = append(all, divided(t, p, mtu)...)
		} else {
			all = append(all, p)
		}
	}
	return all
}

// arrive adds fragments in this order of their numbers, some of them repeatedly: the packet is complete when the last missing one arrives, and not before.
func arrive(t *testing.T, x *reasm.Table, l []api.IP, order []int, want api.IP) {
	t.Helper()
	missing := map[int]bool{}
	for no := range l {
		missing[no] = true
	}
	for i, no := range order {
		delete(missing, no)
		got := add(x, i, l[no])
		if len(missing) > 0 && !got.equal(waiting) || len(missing) == 0 && !got.equal(done(want)) {
			t.Fatalf("order %v, with fragment %d: %v, while %d are missing", order, i, got, len(missing))
		}
		if len(missing) == 0 {
			return
		}
		if x.Len() != 1 {
			t.Fatal("packets that wait:", x.Len())
		}
	}
	t.Fatal("some are missing still:", len(missing))
}

// shuffled is an order of n numbers that follows no plain pattern, some of which are there repeatedly, but not the last one.
func shuffled(n, repeated int, seed uint32) []int {
	var order []int
	for i := range n {
		order = append(order, i)
	}
	for i, by := range noise(2*n, seed) {
		k, at := i%n, int(by)*n>>8
		order[k], order[at] = order[at], order[k]
	}
	for i, by := range noise(repeated, seed+1) {
		no := order[int(by)*(n-1)>>8]
		at := (i*37 + int(by)) % (len(order) - 1)
		order = append(order[:at], append([]int{no}, order[at:]...)...)
	}
	return order
}

// P12.5: all orders of few fragments.
func TestDividedPacketsInAllOrders(t *testing.T) {
	opts := []byte{130, 3, 5, 7, 3, 4, 0, 0}
	for _, p := range []api.IP{packet(nil, 49), packet(nil, 100), packet(opts, 100), packet(opts, 200), packet([]byte{7, 4, 4, 1}, 233), packet([]byte{137, 4, 4, 1}, 230)} {
		l := divided(t, p, 68)
		if len(l) < 2 || len(l) > 6 {
			t.Fatal("fragments:", len(l))
		}
		x := table(t, 1, 10)
		for _, order := range orders(len(l)) {
			arrive(t, x, l, order, p)
			if stateOf(x) != empty {
				t.Fatal(order, stateOf(x))
			}
		}
	}
}

// P12.5: each of few fragments again, at each place.
func TestDividedPacketsWithRepeatedFragments(t *testing.T) {
	p := packet([]byte{130, 4, 5, 6}, 180)
	l := divided(t, p, 68)
	if len(l) != 5 {
		t.Fatal("fragments:", len(l))
	}
	x := table(t, 1, 10)
	for _, order := range orders(len(l)) {
		for again := range order {
			for at := again + 1; at < len(order); at++ {
				var more []int
				for i, no := range order {
					if i == at {
						more = append(more, order[again])
					}
					more = append(more, no)
				}
				arrive(t, x, l, more, p)
			}
		}
	}
}

// P12.5: packets and mtus of many lengths, fragments in orders of no plain pattern, some of them divided again.
func TestDividedPacketsOfManyLengths(t *testing.T) {
	x := table(t, 1, 10)
	seed := uint32(1)
	for _, opts := range [][]byte{nil, {7, 4, 1, 2}, {130, 4, 1, 2}, append([]byte{131, 23}, noise(21, 3)...), append([]byte{1, 7, 39}, noise(37, 4)...)} {
		opts := append(opts, make([]byte, (4-len(opts)%4)%4)...)
		for _, n := range []int{100, 255, 256, 257, 1000, 1480, 4000} {
			for _, mtu := range []int{68, 69, 76, 300, 576} {
				p := packet(opts, n)
				l := divided(t, p, mtu)
				for some := range 4 {
					seed++
					all := further(t, l, 68+some, some*0x55)
					if len(all) > 1 {
						arrive(t, x, all, shuffled(len(all), len(all)/2, seed), p)
					}
				}
			}
		}
	}
}

// P12.5: the longest packets there are.
func TestDividedPacketsOfTheGreatestLength(t *testing.T) {
	x := table(t, 1, 10)
	for _, p := range []api.IP{packet(nil, 65515), packet([]byte{130, 4, 1, 2}, 65511), packet([]byte{7, 4, 1, 2}, 65511), packet(append([]byte{130, 40}, noise(38, 1)...), 65475)} {
		for _, mtu := range []int{68, 1500, 65534} {
			l := divided(t, p, mtu)
			arrive(t, x, l, shuffled(len(l), min(len(l)-1, 50), uint32(mtu)), p)
		}
	}
}

// Packets whose fragments arrive among one another, each of which is complete with its last one.
func TestDividedPacketsAmongOneAnother(t *testing.T) {
	const many = 20
	var l []api.IP
	left := map[uint16]int{}
	packets := map[uint16]api.IP{}
	for i := range many {
		p := of(uint16(i), packet(nil, 100+50*i))
		for _, q := range divided(t, p, 68+8*i) {
			l = append(l, q)
			left[p.Ident]++
		}
		packets[p.Ident] = p
	}
	x := table(t, many, 10)
	for _, no := range shuffled(len(l), 0, 3) {
		p := l[no]
		left[p.Ident]--
		want := waiting
		if left[p.Ident] == 0 {
			want = done(packets[p.Ident])
		}
		if got := add(x, 0, p); !got.equal(want) {
			t.Fatal(got, "not", want)
		}
	}
	if stateOf(x) != empty {
		t.Error(stateOf(x))
	}
}

// A fragment that is divided, and whose More is set, has no end: its fragments wait until the others come.
func TestFragmentsOfAFragmentHaveNoEnd(t *testing.T) {
	p := packet(nil, 500)
	l := divided(t, p, 300)
	if len(l) != 2 {
		t.Fatal("fragments:", len(l))
	}
	x := table(t, 1, 10)
	for i, q := range divided(t, l[0], 100) {
		if got := add(x, 0, q); !got.equal(waiting) {
			t.Fatal(fmt.Sprint(i), got)
		}
	}
	expect(t, x, 0, l[1], done(p), empty)
	add(x, 0, l[1])
	m := divided(t, l[0], 100)
	for i, q := range m {
		if got := add(x, 0, q); got.done != (i == len(m)-1) || got.e != api.OK {
			t.Fatal(i, got)
		}
	}
}

// Fragments and the fragments of these, which overlap: the packet is complete when each byte has arrived in one or the other.
func TestFragmentsAndTheirFragments(t *testing.T) {
	p := packet([]byte{130, 4, 5, 6}, 700)
	whole := divided(t, p, 300)
	small := further(t, whole, 84, 0xff)
	all := append(small, whole...)
	for seed := range uint32(200) {
		x := table(t, 1, 10)
		missing := len(p.Data)
		there := make([]bool, missing)
		for i, no := range shuffled(len(all), 0, seed) {
			q := all[no]
			for at := 8 * q.Off; at < 8*q.Off+len(q.Data); at++ {
				if !there[at] {
					there[at] = true
					missing--
				}
			}
			want := waiting
			if missing == 0 {
				want = done(p)
			}
			if got := add(x, i, q); !got.equal(want) {
				t.Fatalf("seed %d, fragment %d: %v, while %d bytes are missing", seed, i, got, missing)
			}
			if missing == 0 {
				break
			}
		}
	}
}
