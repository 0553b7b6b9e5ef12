package port_test

import (
	"fmt"
	"math"
	"slices"
	"testing"

	"towrope/api"
	"towrope/port"
)

// model tells in another way than the program what a table answers: it has all bindings and all connections in lists, and searches them each time.
type model struct {
	low, high, last int // the last is 0 if none was picked
	bindings        []binding
	talks           []talk
}

type binding struct {
	end   api.End
	owner int
}

type talk struct {
	quad  api.Quad
	owner int
}

// at is the index of the binding of an end, or -1.
func (m *model) at(e api.End) int {
	return slices.IndexFunc(m.bindings, func(b binding) bool { return b.end == e })
}

// with is the index of a connection, or -1.
func (m *model) with(q api.Quad) int {
	return slices.IndexFunc(m.talks, func(k talk) bool { return k.quad == q })
}

// stops tells whether a binding stands in the way of another end.
func (b binding) stops(e api.End) bool {
	return b.end.Port == e.Port && (b.end.Addr == e.Addr || b.end.Addr == 0 || e.Addr == 0)
}

// stopped tells whether any binding stands in the way of an end.
func (m *model) stopped(e api.End) bool {
	return slices.ContainsFunc(m.bindings, func(b binding) bool { return b.stops(e) })
}

func (m *model) bind(e api.End, owner int) api.Errno {
	switch {
	case e.Port == 0:
		return api.ErrRange
	case m.stopped(e):
		return api.ErrSame
	case len(m.bindings) == 1024:
		return api.ErrFull
	}
	m.bindings = append(m.bindings, binding{e, owner})
	return api.OK
}

func (m *model) unbind(e api.End, owner int) api.Errno {
	i := slices.Index(m.bindings, binding{e, owner})
	if i < 0 {
		return api.ErrNone
	}
	m.bindings = slices.Delete(m.bindings, i, i+1)
	return api.OK
}

func (m *model) owner(e api.End) (int, bool) {
	for _, a := range []api.Addr{e.Addr, 0} {
		if i := m.at(end(a, e.Port)); i >= 0 {
			return m.bindings[i].owner, true
		}
	}
	return 0, false
}

// order is the ports as Pick tries them.
func (m *model) order() []int {
	var l []int
	for no := max(m.low, m.last+1); no <= m.high; no++ {
		l = append(l, no)
	}
	for no := m.low; no <= m.last; no++ {
		l = append(l, no)
	}
	return l
}

func (m *model) pick(a api.Addr) (uint16, api.Errno) {
	for _, no := range m.order() {
		if !m.stopped(end(a, uint16(no))) {
			m.last = no
			return uint16(no), api.OK
		}
	}
	return 0, api.ErrFull
}

func (m *model) join(q api.Quad, owner int) api.Errno {
	switch {
	case q.Local.Port == 0 || q.Remote.Port == 0:
		return api.ErrRange
	case m.with(q) >= 0:
		return api.ErrSame
	case len(m.talks) == 1024:
		return api.ErrFull
	}
	m.talks = append(m.talks, talk{q, owner})
	return api.OK
}

func (m *model) part(q api.Quad) api.Errno {
	i := m.with(q)
	if i < 0 {
		return api.ErrNone
	}
	m.talks = slices.Delete(m.talks, i, i+1)
	return api.OK
}

func (m *model) find(q api.Quad) (owner int, joined, ok bool) {
	if i := m.with(q); i >= 0 {
		return m.talks[i].owner, true, true
	}
	owner, ok = m.owner(q.Local)
	return owner, false, ok
}

// call is one of a table: its name, its quad (of which Bind, Unbind and Pick take the Local) and its owner.
type call struct {
	name  string
	quad  api.Quad
	owner int
}

// ofEnd is a call that takes an end, or the address of one.
func ofEnd(name string, a api.Addr, no uint16, owner int) call {
	return call{name, api.Quad{Local: end(a, no)}, owner}
}

// both are a table and its model, and the calls of them so far.
type both struct {
	t     *testing.T
	p     *port.Table
	m     *model
	calls []call
}

func newBoth(t *testing.T, low, high int) *both {
	p, _ := port.New(low, high)
	return &both{t: t, p: p, m: &model{low: low, high: high}}
}

// fail tells the calls, and what differs.
func (b *both) fail(got, want any) {
	b.t.Helper()
	b.t.Fatal(b.calls[max(0, len(b.calls)-20):], "answers", got, "not", want)
}

// answer is what a call returns.
type answer struct {
	no uint16
	e  api.Errno
}

// ofTable makes a call of the table.
func (b *both) ofTable(c call) (r answer) {
	switch c.name {
	case "Bind":
		r.e = b.p.Bind(c.quad.Local, c.owner)
	case "Unbind":
		r.e = b.p.Unbind(c.quad.Local, c.owner)
	case "Pick":
		r.no, r.e = b.p.Pick(c.quad.Local.Addr)
	case "Join":
		r.e = b.p.Join(c.quad, c.owner)
	case "Part":
		r.e = b.p.Part(c.quad)
	default:
		b.t.Fatal("no call:", c)
	}
	return r
}

// ofModel makes a call of the model.
func (b *both) ofModel(c call) (r answer) {
	switch c.name {
	case "Bind":
		r.e = b.m.bind(c.quad.Local, c.owner)
	case "Unbind":
		r.e = b.m.unbind(c.quad.Local, c.owner)
	case "Pick":
		r.no, r.e = b.m.pick(c.quad.Local.Addr)
	case "Join":
		r.e = b.m.join(c.quad, c.owner)
	default:
		r.e = b.m.part(c.quad)
	}
	return r
}

// do makes a call of both, and compares the answers.
func (b *both) do(c call) answer {
	b.t.Helper()
	b.calls = append(b.calls, c)
	got, want := b.ofTable(c), b.ofModel(c)
	if got != want {
		b.fail(got, want)
	}
	return got
}

// check compares what the table tells of some quads and their ends.
func (b *both) check(quads ...api.Quad) {
	b.t.Helper()
	bound, joined := b.p.Len()
	if bound != len(b.m.bindings) || joined != len(b.m.talks) {
		b.fail(fmt.Sprint("Len ", bound, " ", joined), fmt.Sprint(len(b.m.bindings), " ", len(b.m.talks)))
	}
	for _, q := range quads {
		owner, ok := b.p.Owner(q.Local)
		if want, there := b.m.owner(q.Local); owner != want || ok != there {
			b.fail(fmt.Sprint("Owner ", q.Local, owner, ok), fmt.Sprint(want, there))
		}
		owner, joined, ok := b.p.Find(q)
		want, byQuad, there := b.m.find(q)
		if owner != want || joined != byQuad || ok != there {
			b.fail(fmt.Sprint("Find ", q, owner, joined, ok), fmt.Sprint(want, byQuad, there))
		}
		if !byQuad {
			want = 0
		}
		if owner, ok := b.p.Talks(q); owner != want || ok != byQuad {
			b.fail(fmt.Sprint("Talks ", q, owner, ok), fmt.Sprint(want, byQuad))
		}
	}
}

// rows calls f with each row of n of the calls.
func rows(n int, calls []call, f func(row []call)) {
	row := make([]call, n)
	var fill func(at int)
	fill = func(at int) {
		if at == n {
			f(row)
			return
		}
		for _, c := range calls {
			row[at] = c
			fill(at + 1)
		}
	}
	fill(0)
}

// All rows of five calls about ends, with two ports and three addresses, the address 0 among them.
func TestAllRowsOfFiveCallsOfEnds(t *testing.T) {
	calls := []call{
		ofEnd("Bind", 0, 10, 1), ofEnd("Bind", 1, 10, 1), ofEnd("Bind", 2, 10, 2), ofEnd("Bind", 1, 11, 0),
		ofEnd("Unbind", 0, 10, 1), ofEnd("Unbind", 1, 10, 1), ofEnd("Unbind", 2, 10, 2), ofEnd("Unbind", 1, 11, 0),
		ofEnd("Pick", 0, 0, 0), ofEnd("Pick", 1, 0, 0),
	}
	var quads []api.Quad
	for a := range api.Addr(4) {
		quads = append(quads, quad(a, 10, 7, 70), quad(a, 11, 7, 70))
	}
	rows(5, calls, func(row []call) {
		b := newBoth(t, 10, 11)
		for _, c := range row {
			b.do(c)
		}
		b.check(quads...)
		for a := range api.Addr(4) {
			b.do(ofEnd("Pick", a, 0, 0))
		}
	})
}

// All rows of six calls about picking, of three ports.
func TestAllRowsOfSixPicks(t *testing.T) {
	calls := []call{
		ofEnd("Pick", 0, 0, 0), ofEnd("Pick", 1, 0, 0), ofEnd("Bind", 1, 10, 1), ofEnd("Bind", 1, 11, 1), ofEnd("Bind", 2, 12, 1), ofEnd("Unbind", 1, 11, 1),
	}
	rows(6, calls, func(row []call) {
		b := newBoth(t, 10, 12)
		for _, c := range row {
			b.do(c)
		}
		for range 4 {
			b.do(ofEnd("Pick", 1, 0, 0))
		}
		b.do(ofEnd("Pick", 2, 0, 0))
	})
}

// All rows of five calls about connections and the bindings beside them.
func TestAllRowsOfFiveCallsOfQuads(t *testing.T) {
	q, r, s := quad(1, 10, 7, 70), quad(7, 70, 1, 10), quad(1, 10, 0, 70)
	calls := []call{
		{"Join", q, 1}, {"Join", r, 0}, {"Join", s, 3}, {"Join", quad(1, 0, 7, 70), 1}, {"Join", quad(1, 10, 7, 0), 1},
		{"Part", q, 0}, {"Part", r, 0}, {"Part", s, 0},
		ofEnd("Bind", 1, 10, 4), ofEnd("Bind", 0, 10, 5), ofEnd("Unbind", 1, 10, 4),
	}
	rows(5, calls, func(row []call) {
		b := newBoth(t, 10, 11)
		for _, c := range row {
			b.do(c)
		}
		b.check(q, r, s, quad(1, 10, 7, 71), quad(0, 10, 7, 70), quad(1, 0, 7, 70), quad(1, 10, 7, 0), quad(2, 10, 7, 70))
	})
}

// All rows of four calls, wrong ones and great numbers among them.
func TestAllRowsOfFourCalls(t *testing.T) {
	calls := []call{
		ofEnd("Bind", 0, 0, 1), ofEnd("Bind", far, 65535, math.MinInt), ofEnd("Bind", 0, 65535, math.MaxInt), ofEnd("Bind", 1<<31, 65534, -1), ofEnd("Bind", far, 1, 0),
		ofEnd("Unbind", 0, 0, 1), ofEnd("Unbind", far, 65535, math.MinInt), ofEnd("Unbind", far, 65535, math.MaxInt), ofEnd("Unbind", 0, 65535, math.MaxInt), ofEnd("Unbind", far, 1, 0), ofEnd("Unbind", 1<<31, 65534, 0),
		ofEnd("Pick", 0, 0, 0), ofEnd("Pick", far, 0, 0), ofEnd("Pick", 1<<31, 9, 9),
		{"Join", quad(far, 65535, far, 65535), math.MinInt}, {"Join", quad(0, 1, 0, 1), math.MaxInt}, {"Join", quad(0, 0, 0, 1), 0}, {"Part", quad(0, 1, 0, 1), 0}, {"Part", quad(0, 0, 0, 0), 0},
	}
	quads := []api.Quad{quad(far, 65535, far, 65535), quad(0, 1, 0, 1), quad(1<<31, 65534, 0, 0), quad(1, 65535, 0, 1), {}}
	rows(4, calls, func(row []call) {
		b := newBoth(t, 65534, 65535)
		for _, c := range row {
			b.do(c)
		}
		b.check(quads...)
		b.do(ofEnd("Pick", far, 0, 0))
		b.do(ofEnd("Pick", 1, 0, 0))
	})
}

// chance returns numbers that follow no plain pattern, other ones for each seed.
func chance(seed uint64) func(n int) int {
	return func(n int) int {
		seed = seed*6364136223846793005 + 1442695040888963407
		return int(seed>>20&math.MaxInt32) % n
	}
}

// anyEnd returns an end at one of some addresses and ports around low.
func anyEnd(next func(n int) int, addrs, low, ports int) api.End {
	return end(api.Addr(next(addrs)), uint16(low-1+next(ports+2)))
}

// anyCall returns a call of no plain pattern.
func anyCall(next func(n int) int, addrs, low, ports, owners int) call {
	q := api.Quad{Local: anyEnd(next, addrs, low, ports), Remote: anyEnd(next, addrs, 1, 2)}
	name := []string{"Bind", "Bind", "Bind", "Unbind", "Unbind", "Pick", "Pick", "Join", "Join", "Part"}[next(10)]
	return call{name, q, next(owners) - 1}
}

// Long runs of calls of no plain pattern, with few addresses, ports and owners, and with more.
func TestRunsOfCalls(t *testing.T) {
	for seed := range uint64(60) {
		next := chance(seed)
		addrs := 1 + int(seed%5)
		low := 1 + int(seed%3)*32767
		ports := 1 + int(seed%7)*2
		if low+ports > 65536 {
			low = 65536 - ports
		}
		b := newBoth(t, low, low+ports-1)
		for range 2000 {
			b.do(anyCall(next, addrs, low, ports, 1+int(seed%4)))
			q := api.Quad{Local: anyEnd(next, addrs+1, low, ports), Remote: anyEnd(next, addrs, 1, 2)}
			b.check(q, swap(q))
		}
		for range ports + 1 {
			b.do(ofEnd("Pick", api.Addr(next(addrs+1)), 0, 0))
		}
	}
}

// Long runs in which the table is full again and again, of bindings and of connections.
func TestRunsOfCallsOfAFullTable(t *testing.T) {
	for seed := range uint64(4) {
		next := chance(seed)
		b := newBoth(t, 100, 100+500*int(1+seed))
		fullB, fullJ := 0, 0
		for step := range 8000 {
			e := end(api.Addr(next(3)*next(2)), uint16(100+next(2000)))
			switch k := next(20); {
			case k < 7:
				if b.do(call{"Bind", api.Quad{Local: e}, next(2)}).e == api.ErrFull {
					fullB++
				}
			case k < 10:
				if no := b.do(call{"Pick", api.Quad{Local: e}, 0}).no; no != 0 {
					b.do(ofEnd("Bind", e.Addr, no, next(2)))
				}
			case k < 12:
				b.do(call{"Unbind", api.Quad{Local: e}, next(2)})
			case k < 18:
				if b.do(call{"Join", quad(1, e.Port, e.Addr, 9), next(3)}).e == api.ErrFull {
					fullJ++
				}
			default:
				b.do(call{"Part", quad(1, e.Port, e.Addr, 9), 0})
			}
			if step%20 == 0 {
				b.check(quad(e.Addr, e.Port, 1, 9), quad(1, e.Port, e.Addr, 9))
			}
		}
		if fullB == 0 || fullJ == 0 {
			t.Errorf("seed %d: full %d and %d times", seed, fullB, fullJ)
		}
	}
}

// The same calls have the same answers, on any table, whatever is asked of others in between.
func TestSameCallsSameAnswers(t *testing.T) {
	for seed := range uint64(20) {
		p, q, other := start(t, 10, 14), start(t, 10, 14), start(t, 10, 14)
		one, two, three := &both{t: t, p: p}, &both{t: t, p: q}, &both{t: t, p: other}
		next, again := chance(seed), chance(seed+1000)
		for range 500 {
			c := anyCall(next, 3, 10, 5, 2)
			got := one.ofTable(c)
			three.ofTable(anyCall(again, 3, 10, 5, 2))
			if want := two.ofTable(c); got != want {
				t.Fatalf("%v: %v, and %v", c, got, want)
			}
		}
		if a, b := stateOf(p), stateOf(q); a != b {
			t.Fatalf("%s, and %s", a, b)
		}
	}
}
