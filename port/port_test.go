package port_test

import (
	"fmt"
	"math"
	"testing"

	"towrope/api"
	"towrope/port"
)

// extremes are the least ints, the greatest ones, and some that are less far.
func extremes() []int {
	return []int{math.MinInt, math.MinInt + 1, -1 << 32, -1<<32 + 1, -65536, -65535, -1025, -2, -1, 0, 1, 2, 1023, 1024, 65535, 65536, 65537, 1 << 32, 1<<32 + 1, math.MaxInt - 1, math.MaxInt}
}

// far is the greatest address.
const far = api.Addr(math.MaxUint32)

func end(a api.Addr, port uint16) api.End { return api.End{Addr: a, Port: port} }

func quad(a api.Addr, port uint16, b api.Addr, other uint16) api.Quad {
	return api.Quad{Local: end(a, port), Remote: end(b, other)}
}

// swap is the quad of the other side.
func swap(q api.Quad) api.Quad { return api.Quad{Local: q.Remote, Remote: q.Local} }

// start returns a new table.
func start(t *testing.T, low, high int) *port.Table {
	t.Helper()
	p, e := port.New(low, high)
	if p == nil || e != api.OK {
		t.Fatalf("New(%d, %d): error %d", low, high, int(e))
	}
	counts(t, p, 0, 0)
	return p
}

// counts compares how many there are.
func counts(t *testing.T, p *port.Table, bound, joined int) {
	t.Helper()
	if b, j := p.Len(); b != bound || j != joined {
		t.Errorf("Len() = %d, %d, not %d, %d", b, j, bound, joined)
	}
}

// addrs are the addresses of which stateOf asks.
func addrs() []api.Addr { return []api.Addr{0, 1, 2, 3, 1 << 31, far - 1, far} }

// ports are the ports of which stateOf asks.
func ports() []uint16 {
	return []uint16{0, 1, 2, 3, 9, 10, 11, 12, 13, 14, 80, 255, 256, 1024, 1 << 15, 65534, 65535}
}

// stateOf is what a table tells of all that the tests bind and join. Pick is not asked: it changes what it returns next.
func stateOf(p *port.Table) string {
	var l []any
	bound, joined := p.Len()
	l = append(l, bound, joined)
	for _, a := range addrs() {
		for _, no := range ports() {
			owner, ok := p.Owner(end(a, no))
			l = append(l, owner, ok)
			for _, q := range []api.Quad{quad(a, no, 7, 70), quad(7, 70, a, no), quad(a, no, a, no), quad(a, no, 0, 1), quad(a, no, far, 65535)} {
				owner, ok = p.Talks(q)
				l = append(l, owner, ok)
				owner, joined, ok := p.Find(q)
				l = append(l, owner, joined, ok)
			}
		}
	}
	return fmt.Sprint(l...)
}

// bind binds an end: its owner is told then.
func bind(t *testing.T, p *port.Table, e api.End, owner int) {
	t.Helper()
	bound, joined := p.Len()
	if err := p.Bind(e, owner); err != api.OK {
		t.Errorf("Bind(%v, %d): error %d", e, owner, int(err))
	}
	owns(t, p, e, owner)
	counts(t, p, bound+1, joined)
}

// bindNot binds an end that can't be: nothing changes.
func bindNot(t *testing.T, p *port.Table, e api.End, owner int, want api.Errno) {
	t.Helper()
	was := stateOf(p)
	if err := p.Bind(e, owner); err != want {
		t.Errorf("Bind(%v, %d): error %d, not %d", e, owner, int(err), int(want))
	}
	if got := stateOf(p); got != was {
		t.Errorf("after Bind(%v, %d): %s, not %s", e, owner, got, was)
	}
}

// unbind removes a binding.
func unbind(t *testing.T, p *port.Table, e api.End, owner int) {
	t.Helper()
	bound, joined := p.Len()
	if err := p.Unbind(e, owner); err != api.OK {
		t.Errorf("Unbind(%v, %d): error %d", e, owner, int(err))
	}
	counts(t, p, bound-1, joined)
}

// unbindNot removes a binding that is not there: nothing changes.
func unbindNot(t *testing.T, p *port.Table, e api.End, owner int, want api.Errno) {
	t.Helper()
	was := stateOf(p)
	if err := p.Unbind(e, owner); err != want {
		t.Errorf("Unbind(%v, %d): error %d, not %d", e, owner, int(err), int(want))
	}
	if got := stateOf(p); got != was {
		t.Errorf("after Unbind(%v, %d): %s, not %s", e, owner, got, was)
	}
}

// owns compares the owner of an end.
func owns(t *testing.T, p *port.Table, e api.End, want int) {
	t.Helper()
	if owner, ok := p.Owner(e); owner != want || !ok {
		t.Errorf("Owner(%v) = %d, %v, not %d", e, owner, ok, want)
	}
}

// ownsNot asks for the owner of an end that has none.
func ownsNot(t *testing.T, p *port.Table, e api.End) {
	t.Helper()
	if owner, ok := p.Owner(e); owner != 0 || ok {
		t.Errorf("Owner(%v) = %d, %v", e, owner, ok)
	}
}

// pick picks these ports, one after the other: nothing else changes by that.
func pick(t *testing.T, p *port.Table, a api.Addr, want ...uint16) {
	t.Helper()
	was := stateOf(p)
	for i, no := range want {
		if got, err := p.Pick(a); got != no || err != api.OK {
			t.Errorf("Pick(%d), number %d of %v: %d, error %d", a, i, want, got, int(err))
		}
	}
	if got := stateOf(p); got != was {
		t.Errorf("after Pick(%d): %s, not %s", a, got, was)
	}
}

// pickNot picks a port where none can be bound.
func pickNot(t *testing.T, p *port.Table, a api.Addr, want api.Errno) {
	t.Helper()
	was := stateOf(p)
	if got, err := p.Pick(a); got != 0 || err != want {
		t.Errorf("Pick(%d) = %d, error %d, not %d", a, got, int(err), int(want))
	}
	if got := stateOf(p); got != was {
		t.Errorf("after Pick(%d): %s, not %s", a, got, was)
	}
}

// join records a connection: its owner is told then.
func join(t *testing.T, p *port.Table, q api.Quad, owner int) {
	t.Helper()
	bound, joined := p.Len()
	if err := p.Join(q, owner); err != api.OK {
		t.Errorf("Join(%v, %d): error %d", q, owner, int(err))
	}
	talks(t, p, q, owner)
	finds(t, p, q, owner, true)
	counts(t, p, bound, joined+1)
}

// joinNot records a connection that can't be: nothing changes.
func joinNot(t *testing.T, p *port.Table, q api.Quad, owner int, want api.Errno) {
	t.Helper()
	was := stateOf(p)
	if err := p.Join(q, owner); err != want {
		t.Errorf("Join(%v, %d): error %d, not %d", q, owner, int(err), int(want))
	}
	if got := stateOf(p); got != was {
		t.Errorf("after Join(%v, %d): %s, not %s", q, owner, got, was)
	}
}

// part removes a connection: it is there no more.
func part(t *testing.T, p *port.Table, q api.Quad) {
	t.Helper()
	bound, joined := p.Len()
	if err := p.Part(q); err != api.OK {
		t.Errorf("Part(%v): error %d", q, int(err))
	}
	talksNot(t, p, q)
	counts(t, p, bound, joined-1)
}

// partNot removes a connection that is not there: nothing changes.
func partNot(t *testing.T, p *port.Table, q api.Quad, want api.Errno) {
	t.Helper()
	was := stateOf(p)
	if err := p.Part(q); err != want {
		t.Errorf("Part(%v): error %d, not %d", q, int(err), int(want))
	}
	if got := stateOf(p); got != was {
		t.Errorf("after Part(%v): %s, not %s", q, got, was)
	}
}

// talks compares the owner of a connection.
func talks(t *testing.T, p *port.Table, q api.Quad, want int) {
	t.Helper()
	if owner, ok := p.Talks(q); owner != want || !ok {
		t.Errorf("Talks(%v) = %d, %v, not %d", q, owner, ok, want)
	}
}

// talksNot asks for the owner of a connection that is not there.
func talksNot(t *testing.T, p *port.Table, q api.Quad) {
	t.Helper()
	if owner, ok := p.Talks(q); owner != 0 || ok {
		t.Errorf("Talks(%v) = %d, %v", q, owner, ok)
	}
}

// finds compares who takes what comes.
func finds(t *testing.T, p *port.Table, q api.Quad, want int, byQuad bool) {
	t.Helper()
	if owner, joined, ok := p.Find(q); owner != want || joined != byQuad || !ok {
		t.Errorf("Find(%v) = %d, %v, %v, not %d, %v", q, owner, joined, ok, want, byQuad)
	}
}

// findsNot asks who takes what nobody takes.
func findsNot(t *testing.T, p *port.Table, q api.Quad) {
	t.Helper()
	if owner, joined, ok := p.Find(q); owner != 0 || joined || ok {
		t.Errorf("Find(%v) = %d, %v, %v", q, owner, joined, ok)
	}
}

// P18.2: the chapter's example.
func TestExample(t *testing.T) {
	p := start(t, 10, 11)
	pick(t, p, 5, 10)
	bind(t, p, end(5, 10), 1)
	pick(t, p, 5, 11)
	pick(t, p, 5, 11)
}

// P18.1: a new table has nothing, and picks from low on.
func TestNew(t *testing.T) {
	for _, c := range [][2]int{{1, 1}, {1, 2}, {1, 65535}, {2, 2}, {80, 80}, {80, 81}, {49152, 65535}, {65534, 65534}, {65534, 65535}, {65535, 65535}} {
		p := start(t, c[0], c[1])
		for _, a := range addrs() {
			for _, no := range ports() {
				ownsNot(t, p, end(a, no))
				talksNot(t, p, quad(a, no, 7, 70))
				findsNot(t, p, quad(a, no, 7, 70))
			}
		}
		pick(t, p, 3, uint16(c[0]))
		if c[0] < c[1] {
			pick(t, p, 3, uint16(c[0]+1))
		}
	}
}

// P18.1: low may be 1 to high, and high up to 65535.
func TestNewOutOfRange(t *testing.T) {
	list := append(extremes(), 3, 9, 10, 11, 80, 255, 256, 32768, 65534)
	for _, low := range list {
		for _, high := range list {
			p, e := port.New(low, high)
			if 1 <= low && low <= high && high <= 65535 {
				if p == nil || e != api.OK {
					t.Errorf("New(%d, %d): error %d", low, high, int(e))
				}
				pick(t, p, 1, uint16(low))
				continue
			}
			if p != nil || e != api.ErrArg {
				t.Errorf("New(%d, %d) = %v, error %d", low, high, p, int(e))
			}
		}
	}
}

// P18.1 to P18.3: what a nil table answers, whatever it is given.
func TestNilTable(t *testing.T) {
	var p *port.Table
	for _, a := range addrs() {
		pickNot(t, p, a, api.ErrNil)
		for _, no := range ports() {
			for _, owner := range []int{0, 1, -1, math.MinInt, math.MaxInt} {
				bindNot(t, p, end(a, no), owner, api.ErrNil)
				unbindNot(t, p, end(a, no), owner, api.ErrNil)
				joinNot(t, p, quad(a, no, 7, 70), owner, api.ErrNil)
				joinNot(t, p, quad(7, 70, a, no), owner, api.ErrNil)
			}
			partNot(t, p, quad(a, no, 7, 70), api.ErrNil)
			ownsNot(t, p, end(a, no))
			talksNot(t, p, quad(a, no, 7, 70))
			findsNot(t, p, quad(a, no, 7, 70))
		}
	}
	counts(t, p, 0, 0)
}

// P18.1 to P18.3: no call of one table shows in another.
func TestTablesDoNotAffectOneAnother(t *testing.T) {
	p, other, third := start(t, 10, 12), start(t, 10, 12), start(t, 10, 12)
	empty := stateOf(third)
	bind(t, p, end(1, 10), 5)
	bind(t, p, end(0, 80), 6)
	join(t, p, quad(1, 10, 7, 70), 8)
	pick(t, p, 2, 10, 11)
	if got := stateOf(other); got != empty {
		t.Errorf("another table: %s, not %s", got, empty)
	}
	bind(t, other, end(1, 10), 50)
	unbindNot(t, other, end(1, 10), 5, api.ErrNone)
	bind(t, other, end(2, 80), 60)
	join(t, other, quad(1, 10, 7, 70), 80)
	pick(t, other, 2, 10)
	owns(t, p, end(1, 10), 5)
	owns(t, p, end(2, 80), 6)
	talks(t, p, quad(1, 10, 7, 70), 8)
	unbind(t, other, end(1, 10), 50)
	part(t, other, quad(1, 10, 7, 70))
	owns(t, p, end(1, 10), 5)
	talks(t, p, quad(1, 10, 7, 70), 8)
	pick(t, p, 2, 12, 10)
	pick(t, other, 2, 11, 12, 10)
	counts(t, p, 2, 1)
	counts(t, other, 1, 0)
	if got := stateOf(third); got != empty {
		t.Errorf("a third table: %s, not %s", got, empty)
	}
	pick(t, third, 2, 10)
}

// P18.1 and P18.3: the owner may be any int, 0 among them, which is told with true.
func TestAnyOwner(t *testing.T) {
	for _, owner := range extremes() {
		p := start(t, 10, 12)
		bind(t, p, end(1, 10), owner)
		bind(t, p, end(0, 11), owner)
		owns(t, p, end(1, 10), owner)
		owns(t, p, end(far, 11), owner)
		finds(t, p, quad(1, 10, 7, 70), owner, false)
		join(t, p, quad(1, 10, 7, 70), owner)
		finds(t, p, quad(1, 10, 7, 70), owner, true)
		for _, wrong := range extremes() {
			if wrong != owner {
				unbindNot(t, p, end(1, 10), wrong, api.ErrNone)
				unbindNot(t, p, end(0, 11), wrong, api.ErrNone)
			}
		}
		unbind(t, p, end(1, 10), owner)
		unbind(t, p, end(0, 11), owner)
		ownsNot(t, p, end(1, 10))
		part(t, p, quad(1, 10, 7, 70))
		counts(t, p, 0, 0)
	}
}

// P18.1 to P18.3: asking changes nothing, not what is picked next either.
func TestAskingChangesNothing(t *testing.T) {
	p := start(t, 10, 13)
	bind(t, p, end(1, 10), 5)
	join(t, p, quad(1, 10, 7, 70), 8)
	pick(t, p, 2, 10, 11)
	was := stateOf(p)
	for range 5 {
		if got := stateOf(p); got != was {
			t.Errorf("%s, not %s", got, was)
		}
	}
	pick(t, p, 2, 12, 13, 10)
}

// P18.3: Len behind each kind of call.
func TestLen(t *testing.T) {
	p := start(t, 10, 12)
	steps := []struct {
		do            func() api.Errno
		e             api.Errno
		bound, joined int
	}{
		{func() api.Errno { return p.Bind(end(1, 10), 1) }, api.OK, 1, 0},
		{func() api.Errno { return p.Bind(end(1, 10), 1) }, api.ErrSame, 1, 0},
		{func() api.Errno { return p.Bind(end(1, 0), 1) }, api.ErrRange, 1, 0},
		{func() api.Errno { return p.Bind(end(2, 10), 1) }, api.OK, 2, 0},
		{func() api.Errno { return p.Bind(end(0, 12), 1) }, api.OK, 3, 0},
		{func() api.Errno { _, e := p.Pick(1); return e }, api.OK, 3, 0},
		{func() api.Errno { return p.Join(quad(1, 10, 7, 70), 1) }, api.OK, 3, 1},
		{func() api.Errno { return p.Join(quad(1, 10, 7, 70), 1) }, api.ErrSame, 3, 1},
		{func() api.Errno { return p.Join(quad(1, 10, 7, 0), 1) }, api.ErrRange, 3, 1},
		{func() api.Errno { return p.Join(quad(7, 70, 1, 10), 1) }, api.OK, 3, 2},
		{func() api.Errno { return p.Bind(end(7, 70), 1) }, api.OK, 4, 2},
		{func() api.Errno { return p.Unbind(end(7, 70), 2) }, api.ErrNone, 4, 2},
		{func() api.Errno { return p.Unbind(end(1, 12), 1) }, api.ErrNone, 4, 2},
		{func() api.Errno { return p.Unbind(end(7, 70), 1) }, api.OK, 3, 2},
		{func() api.Errno { return p.Part(quad(7, 70, 1, 11)) }, api.ErrNone, 3, 2},
		{func() api.Errno { return p.Part(quad(7, 70, 1, 10)) }, api.OK, 3, 1},
		{func() api.Errno { return p.Part(quad(7, 70, 1, 10)) }, api.ErrNone, 3, 1},
		{func() api.Errno { return p.Unbind(end(0, 12), 1) }, api.OK, 2, 1},
		{func() api.Errno { return p.Unbind(end(1, 10), 1) }, api.OK, 1, 1},
		{func() api.Errno { return p.Unbind(end(2, 10), 1) }, api.OK, 0, 1},
		{func() api.Errno { return p.Part(quad(1, 10, 7, 70)) }, api.OK, 0, 0},
	}
	for i, step := range steps {
		if e := step.do(); e != step.e {
			t.Errorf("step %d: error %d, not %d", i, int(e), int(step.e))
		}
		counts(t, p, step.bound, step.joined)
	}
}
