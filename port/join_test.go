package port_test

import (
	"testing"

	"towrope/api"
)

// P18.3: connections, each with its owner.
func TestJoin(t *testing.T) {
	p := start(t, 10, 12)
	all := []api.Quad{
		quad(1, 80, 7, 70), quad(1, 80, 7, 71), quad(1, 80, 8, 70), quad(1, 81, 7, 70), quad(2, 80, 7, 70),
		quad(0, 80, 7, 70), quad(1, 80, 0, 70), quad(1, 80, 1, 80), quad(7, 70, 1, 80), quad(0, 1, 0, 1), quad(far, 65535, far, 65535),
	}
	for i, q := range all {
		talksNot(t, p, q)
		findsNot(t, p, q)
		join(t, p, q, 100+i)
	}
	for i, q := range all {
		talks(t, p, q, 100+i)
		finds(t, p, q, 100+i, true)
	}
	for _, q := range []api.Quad{quad(1, 80, 8, 71), quad(1, 79, 7, 70), quad(3, 80, 7, 70), quad(7, 71, 1, 80), quad(0, 1, 0, 2), quad(far, 65535, far, 65534)} {
		talksNot(t, p, q)
		findsNot(t, p, q)
	}
	counts(t, p, 0, 11)
}

// P18.3: a port of 0 on each side, and on both.
func TestJoinPorts(t *testing.T) {
	for _, a := range ports() {
		for _, b := range ports() {
			p := start(t, 10, 12)
			q := quad(1, a, 7, b)
			if a == 0 || b == 0 {
				joinNot(t, p, q, 5, api.ErrRange)
				talksNot(t, p, q)
				findsNot(t, p, q)
				partNot(t, p, q, api.ErrNone)
				continue
			}
			join(t, p, q, 5)
			part(t, p, q)
		}
	}
}

// P18.3: the same quad again, with the same owner or another.
func TestJoinTheSameQuad(t *testing.T) {
	p := start(t, 10, 12)
	q := quad(1, 80, 7, 70)
	join(t, p, q, 5)
	joinNot(t, p, q, 5, api.ErrSame)
	joinNot(t, p, q, 6, api.ErrSame)
	joinNot(t, p, q, 0, api.ErrSame)
	talks(t, p, q, 5)
	part(t, p, q)
	join(t, p, q, 6)
	joinNot(t, p, q, 5, api.ErrSame)
	part(t, p, q)
	join(t, p, q, 0)
	joinNot(t, p, q, 0, api.ErrSame)
	talks(t, p, q, 0)
}

// P18.3: a quad with its ends changed over is another one, unless both ends are the same.
func TestJoinChangedOver(t *testing.T) {
	p := start(t, 10, 12)
	q := quad(1, 80, 7, 70)
	join(t, p, q, 5)
	talksNot(t, p, swap(q))
	findsNot(t, p, swap(q))
	partNot(t, p, swap(q), api.ErrNone)
	join(t, p, swap(q), 6)
	talks(t, p, q, 5)
	part(t, p, q)
	talks(t, p, swap(q), 6)
	same := quad(1, 80, 1, 80)
	join(t, p, same, 7)
	joinNot(t, p, swap(same), 8, api.ErrSame)
	// Addresses changed over, and ports changed over, are others too.
	join(t, p, quad(7, 80, 1, 70), 9)
	join(t, p, quad(1, 70, 7, 80), 10)
	joinNot(t, p, quad(7, 70, 1, 80), 10, api.ErrSame)
	counts(t, p, 0, 4)
}

// P18.3: the address 0 stands for no other in a connection.
func TestJoinTheAddress0(t *testing.T) {
	p := start(t, 10, 12)
	join(t, p, quad(0, 80, 7, 70), 5)
	talksNot(t, p, quad(1, 80, 7, 70))
	findsNot(t, p, quad(1, 80, 7, 70))
	join(t, p, quad(1, 80, 7, 70), 6)
	join(t, p, quad(1, 80, 0, 70), 7)
	join(t, p, quad(2, 80, 0, 70), 8)
	findsNot(t, p, quad(2, 80, 7, 70))
	join(t, p, quad(0, 80, 0, 70), 9)
	counts(t, p, 0, 5)
}

// P18.3: what is bound does not matter to a connection, and the other way round.
func TestJoinBesideBindings(t *testing.T) {
	p := start(t, 10, 12)
	bind(t, p, end(1, 80), 5)
	bind(t, p, end(0, 81), 5)
	join(t, p, quad(1, 80, 7, 70), 6)
	join(t, p, quad(1, 81, 7, 70), 6)
	join(t, p, quad(2, 80, 1, 80), 6)
	bind(t, p, end(2, 80), 7)
	bind(t, p, end(7, 70), 7)
	counts(t, p, 4, 3)
	part(t, p, quad(1, 80, 7, 70))
	owns(t, p, end(1, 80), 5)
}

// P18.3: MaxBound connections are recorded, of one end or of many, and no more.
func TestJoinMaxBound(t *testing.T) {
	places := []func(i int) api.Quad{
		func(i int) api.Quad { return quad(1, 80, 7, uint16(1+i)) },
		func(i int) api.Quad { return quad(1, uint16(1+i), 7, 70) },
		func(i int) api.Quad { return quad(api.Addr(i), 80, 7, 70) },
		func(i int) api.Quad { return quad(1, 80, api.Addr(i), 70) },
		func(i int) api.Quad { return quad(api.Addr(i%7), uint16(1+i/7%7), api.Addr(i/49%7), uint16(1+i/343)) },
	}
	for k, place := range places {
		p := start(t, 10, 12)
		for i := range 1024 {
			if e := p.Join(place(i), i); e != api.OK {
				t.Fatalf("%d: Join(%v): error %d", k, place(i), int(e))
			}
			counts(t, p, 0, i+1)
		}
		joinNot(t, p, place(1024), 5, api.ErrFull)
		joinNot(t, p, quad(far, 65535, far, 65535), 5, api.ErrFull)
		for i := range 1024 {
			talks(t, p, place(i), i)
		}
		talksNot(t, p, place(1024))
		partNot(t, p, place(1024), api.ErrNone)
		joinNot(t, p, place(1024), 5, api.ErrFull)
		part(t, p, place(700))
		join(t, p, place(1024), 5)
		joinNot(t, p, place(700), 700, api.ErrFull)
		counts(t, p, 0, 1024)
	}
}

// P18.3: bindings take no room of connections.
func TestJoinBesideMaxBoundBindings(t *testing.T) {
	p := start(t, 10, 12)
	for i := range 1024 {
		bind(t, p, end(1, uint16(1+i)), i)
	}
	for i := range 1024 {
		join(t, p, quad(1, 80, 7, uint16(1+i)), i)
	}
	joinNot(t, p, quad(1, 80, 7, 2000), 5, api.ErrFull)
	bindNot(t, p, end(1, 2000), 5, api.ErrFull)
	part(t, p, quad(1, 80, 7, 70))
	bindNot(t, p, end(1, 2000), 5, api.ErrFull)
	unbind(t, p, end(1, 1), 0)
	join(t, p, quad(1, 80, 7, 2000), 5)
	joinNot(t, p, quad(1, 80, 7, 70), 5, api.ErrFull)
	bind(t, p, end(1, 2000), 5)
}

// P18.3: of several faults the first one is told: a port of 0 ahead of a quad that is recorded, and that ahead of a full table.
func TestJoinSeveralFaults(t *testing.T) {
	p := start(t, 10, 12)
	for i := range 1024 {
		join(t, p, quad(1, 80, 7, uint16(1+i)), i)
	}
	joinNot(t, p, quad(1, 0, 7, 70), 5, api.ErrRange)
	joinNot(t, p, quad(1, 80, 7, 0), 5, api.ErrRange)
	joinNot(t, p, quad(1, 0, 7, 0), 5, api.ErrRange)
	joinNot(t, p, quad(1, 80, 7, 70), 5, api.ErrSame)
	joinNot(t, p, quad(1, 80, 8, 70), 5, api.ErrFull)
}

// P18.3: a quad that is there, one that is not, and one that was parted.
func TestPart(t *testing.T) {
	p := start(t, 10, 12)
	partNot(t, p, quad(1, 80, 7, 70), api.ErrNone)
	join(t, p, quad(1, 80, 7, 70), 5)
	join(t, p, quad(1, 80, 7, 71), 6)
	for _, q := range []api.Quad{quad(2, 80, 7, 70), quad(1, 81, 7, 70), quad(1, 80, 8, 70), quad(1, 80, 7, 72), quad(0, 80, 7, 70), quad(1, 80, 0, 70), quad(1, 0, 7, 70), quad(1, 80, 7, 0), {}} {
		partNot(t, p, q, api.ErrNone)
		talksNot(t, p, q)
	}
	part(t, p, quad(1, 80, 7, 70))
	talks(t, p, quad(1, 80, 7, 71), 6)
	partNot(t, p, quad(1, 80, 7, 70), api.ErrNone)
	findsNot(t, p, quad(1, 80, 7, 70))
	join(t, p, quad(1, 80, 7, 70), 7)
	part(t, p, quad(1, 80, 7, 70))
	part(t, p, quad(1, 80, 7, 71))
	counts(t, p, 0, 0)
}

// P18.3: a binding alone is no connection.
func TestTalksIsNotOfBindings(t *testing.T) {
	p := start(t, 10, 12)
	bind(t, p, end(1, 80), 5)
	bind(t, p, end(0, 81), 5)
	for _, q := range []api.Quad{quad(1, 80, 7, 70), quad(7, 70, 1, 80), quad(1, 81, 7, 70), quad(1, 80, 1, 80)} {
		talksNot(t, p, q)
		partNot(t, p, q, api.ErrNone)
	}
}

// P18.3: a connection, a binding, both, the address 0, and neither.
func TestFind(t *testing.T) {
	p := start(t, 10, 12)
	q := quad(1, 80, 7, 70)
	findsNot(t, p, q)
	bind(t, p, end(1, 80), 5)
	finds(t, p, q, 5, false)
	finds(t, p, quad(1, 80, 9, 1), 5, false)
	findsNot(t, p, quad(2, 80, 7, 70))
	findsNot(t, p, quad(1, 81, 7, 70))
	findsNot(t, p, quad(7, 70, 1, 80))
	join(t, p, q, 6)
	finds(t, p, q, 6, true)
	finds(t, p, quad(1, 80, 7, 71), 5, false)
	finds(t, p, quad(1, 80, 8, 70), 5, false)
	unbind(t, p, end(1, 80), 5)
	finds(t, p, q, 6, true)
	findsNot(t, p, quad(1, 80, 7, 71))
	bind(t, p, end(0, 80), 7)
	finds(t, p, q, 6, true)
	finds(t, p, quad(1, 80, 7, 71), 7, false)
	finds(t, p, quad(far, 80, 8, 70), 7, false)
	finds(t, p, quad(0, 80, 8, 70), 7, false)
	part(t, p, q)
	finds(t, p, q, 7, false)
	unbind(t, p, end(0, 80), 7)
	findsNot(t, p, q)
}

// P18.3: the Remote alone decides nothing, and a port of 0 is nobody's.
func TestFindByTheLocal(t *testing.T) {
	p := start(t, 10, 12)
	bind(t, p, end(7, 70), 5)
	bind(t, p, end(0, 71), 6)
	for _, no := range []uint16{0, 70, 71} {
		findsNot(t, p, quad(1, 80, 7, no))
		findsNot(t, p, quad(1, 0, 7, no))
		finds(t, p, quad(7, 70, 7, no), 5, false)
		finds(t, p, quad(9, 71, 7, no), 6, false)
	}
}
