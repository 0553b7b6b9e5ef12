package udp_test

import (
	"fmt"
	"math"
	"slices"
	"testing"

	"towrope/api"
	"towrope/udp"
)

// gram is a datagram that was put, and what became of it.
type gram struct {
	from api.End
	text string
	fate string // "waits", "taken", "lost" or "refused"
}

// model tells in another way than the program what a box answers: it keeps all datagrams that ever were put and all errors that ever were told, and counts each time.
type model struct {
	most, room int
	all        []gram
	peers      []api.End
	errs       []api.Errno
	errsTaken  int
}

// with are the datagrams of a fate, in their order.
func (m *model) with(fate string) []*gram {
	var l []*gram
	for i := range m.all {
		if m.all[i].fate == fate {
			l = append(l, &m.all[i])
		}
	}
	return l
}

// peer is whom the last Meet named.
func (m *model) peer() api.End {
	if len(m.peers) == 0 {
		return api.End{}
	}
	return m.peers[len(m.peers)-1]
}

// stranger tells whether an end is not permitted.
func (m *model) stranger(e api.End) bool {
	p := m.peer()
	return (p.Addr != 0 || p.Port != 0) && (p.Addr != e.Addr || p.Port != e.Port)
}

func (m *model) state() state {
	text := ""
	waits := m.with("waits")
	for _, g := range waits {
		text += g.text
	}
	return state{len(waits), len(text), len(m.with("lost")), len(waits) > 0 || m.errsTaken < len(m.errs), m.peer(), m.peer() != api.End{}}
}

func (m *model) meet(e api.End) api.Errno {
	if e.Addr > 0 && e.Port == 0 {
		return api.ErrRange
	}
	m.peers = append(m.peers, e)
	for _, g := range m.with("waits") {
		if m.stranger(g.from) {
			g.fate = "lost"
		}
	}
	return api.OK
}

func (m *model) put(from api.End, text string) api.Errno {
	s := m.state()
	switch {
	case m.stranger(from):
		m.all = append(m.all, gram{from, text, "refused"})
		return api.ErrNone
	case s.len+1 > m.most, s.held+len(text) > m.room:
		m.all = append(m.all, gram{from, text, "lost"})
		return api.ErrFull
	}
	m.all = append(m.all, gram{from, text, "waits"})
	return api.OK
}

func (m *model) take(n int) answer {
	if m.errsTaken < len(m.errs) {
		m.errsTaken++
		return answer{e: m.errs[m.errsTaken-1]}
	}
	waits := m.with("waits")
	if len(waits) == 0 {
		return answer{e: api.ErrNone}
	}
	if n < 0 {
		return answer{e: api.ErrArg}
	}
	g := waits[0]
	g.fate = "taken"
	part := ""
	for i := 0; i < len(g.text) && i < n; i++ {
		part += g.text[i : i+1]
	}
	return answer{g.from, part, len(g.text), api.OK}
}

func (m *model) tell(e api.Errno) {
	if e != 0 && m.errsTaken == len(m.errs) {
		m.errs = append(m.errs, e)
	}
}

// call is one of a box: its name, its end, and its number of bytes or its error.
type call struct {
	name string
	end  api.End
	n    int
}

// answer is what a call returns.
type answer struct {
	from  api.End
	text  string
	whole int
	e     api.Errno
}

// both are a box and its model, and the calls of them so far.
type both struct {
	t     *testing.T
	b     *udp.Box
	m     *model
	calls []call
}

func newBoth(t *testing.T, most, room int) *both {
	b, _ := udp.New(most, room)
	return &both{t: t, b: b, m: &model{most: most, room: room}}
}

// fail tells the calls, and what differs.
func (b *both) fail(got, want any) {
	b.t.Helper()
	b.t.Fatal(b.calls[max(0, len(b.calls)-20):], "answers", got, "not", want)
}

// text is what the next Put puts: other bytes for each.
func (b *both) text(n int) string {
	first := len(b.m.all)
	l := make([]byte, n)
	for i := range l {
		l[i] = byte(first + 7*i)
	}
	return string(l)
}

// ofBox makes a call of the box.
func (b *both) ofBox(c call) (r answer) {
	switch c.name {
	case "Meet":
		r.e = b.b.Meet(c.end)
	case "Put":
		r.e = b.b.Put(mail(c.end, b.text(c.n)))
	case "Take":
		m, whole, e := b.b.Take(c.n)
		r = answer{m.From, string(m.Data), whole, e}
		spoil(m.Data)
	case "Tell":
		b.b.Tell(api.Errno(c.n))
	default:
		b.t.Fatal("no call:", c)
	}
	return r
}

// ofModel makes a call of the model.
func (b *both) ofModel(c call) (r answer) {
	switch c.name {
	case "Meet":
		r.e = b.m.meet(c.end)
	case "Put":
		r.e = b.m.put(c.end, b.text(c.n))
	case "Take":
		r = b.m.take(c.n)
	default:
		b.m.tell(api.Errno(c.n))
	}
	return r
}

// do makes a call of both, and compares the answers and what is told behind them.
func (b *both) do(c call) answer {
	b.t.Helper()
	b.calls = append(b.calls, c)
	got, want := b.ofBox(c), b.ofModel(c)
	if got != want {
		b.fail(fmt.Sprintf("%+v", got), fmt.Sprintf("%+v", want))
	}
	if got, want := stateOf(b.b), b.m.state(); got != want {
		b.fail(fmt.Sprintf("%+v", got), fmt.Sprintf("%+v", want))
	}
	return got
}

// end takes all that is left.
func (b *both) end() {
	b.t.Helper()
	for b.m.state().ready {
		b.do(call{"Take", api.End{}, math.MaxInt})
	}
	b.do(call{"Take", api.End{}, math.MaxInt})
}

// rows calls f with each row of n of the calls.
func rows(n int, calls []call, f func(row []call)) {
	row := make([]call, n)
	var fill func(at int)
	fill = func(at int) {
		if at == n {
			f(row)
			return
		}
		for _, c := range calls {
			row[at] = c
			fill(at + 1)
		}
	}
	fill(0)
}

// All rows of six calls, of two ends, in a box of two datagrams and three bytes.
func TestAllRowsOfSixCalls(t *testing.T) {
	one, two := end(1, 10), end(2, 10)
	calls := []call{
		{"Meet", one, 0}, {"Meet", api.End{}, 0}, {"Put", one, 1}, {"Put", two, 2}, {"Put", two, 0},
		{"Take", api.End{}, 1}, {"Tell", api.End{}, 5},
	}
	rows(6, calls, func(row []call) {
		b := newBoth(t, 2, 3)
		for _, c := range row {
			b.do(c)
		}
		b.end()
	})
}

// All rows of four calls behind three datagrams, wrong calls and great numbers among them.
func TestAllRowsOfFourCalls(t *testing.T) {
	one, two := end(1, 10), end(1, 11)
	calls := []call{
		{"Meet", one, 0}, {"Meet", two, 0}, {"Meet", api.End{}, 0}, {"Meet", end(far, 0), 0}, {"Meet", end(0, 10), 0},
		{"Put", one, 0}, {"Put", one, 3}, {"Put", two, 4}, {"Put", end(0, 10), 7}, {"Put", one, 8}, {"Put", api.End{}, 1},
		{"Take", one, math.MinInt}, {"Take", one, -1}, {"Take", one, 0}, {"Take", one, 2}, {"Take", one, math.MaxInt},
		{"Tell", one, 0}, {"Tell", one, -1}, {"Tell", one, math.MaxInt},
	}
	rows(4, calls, func(row []call) {
		b := newBoth(t, 4, 7)
		b.do(call{"Put", one, 2})
		b.do(call{"Put", two, 1})
		b.do(call{"Put", one, 0})
		for _, c := range row {
			b.do(c)
		}
		b.end()
	})
}

// chance returns numbers that follow no plain pattern, other ones for each seed.
func chance(seed uint64) func(n int) int {
	return func(n int) int {
		seed = seed*6364136223846793005 + 1442695040888963407
		return int(seed>>20&math.MaxInt32) % n
	}
}

// anyCall returns a call of no plain pattern.
func anyCall(next func(n int) int, ends, bytes int) call {
	e := end(api.Addr(next(ends)), uint16(next(2)*10))
	switch k := next(16); {
	case k < 8:
		return call{"Put", e, next(bytes)}
	case k < 13:
		return call{"Take", e, next(bytes+3) - 1}
	case k < 14:
		return call{"Meet", e, 0}
	case k < 15:
		return call{"Meet", api.End{}, 0}
	}
	return call{"Tell", e, next(4) - 1}
}

// Long runs of calls of no plain pattern, in small boxes and in greater ones.
func TestRunsOfCalls(t *testing.T) {
	for seed := range uint64(60) {
		next := chance(seed)
		most := []int{1, 2, 3, 7, 20, 64}[seed%6]
		bytes := []int{1, 2, 5, 12}[seed%4]
		b := newBoth(t, most, 1+next(most*bytes))
		for range 600 {
			b.do(anyCall(next, 1+int(seed%3), bytes))
		}
		b.end()
	}
}

// Long runs in which the box is full again and again.
func TestRunsOfCallsOfAFullBox(t *testing.T) {
	for seed := range uint64(6) {
		next := chance(seed)
		b := newBoth(t, 64, 64*int(4+seed))
		full := 0
		for step := range 1500 {
			c := anyCall(next, 2, 16)
			if (c.name == "Take" || c.name == "Meet") && step/100%2 == 0 {
				c = call{"Put", end(1, 10), next(12)}
			}
			if b.do(c).e == api.ErrFull {
				full++
			}
		}
		b.end()
		if full < 50 {
			t.Errorf("seed %d: full %d times", seed, full)
		}
	}
}

// Runs in the greatest box, with great datagrams.
func TestRunsOfCallsOfTheGreatestBox(t *testing.T) {
	next := chance(7)
	b := newBoth(t, 64, 1<<20)
	for range 60 {
		b.do(call{"Put", end(1, 10), next(200000)})
		if next(3) == 0 {
			b.do(call{"Take", end(1, 10), 100})
		}
	}
	if !slices.ContainsFunc(b.m.all, func(g gram) bool { return g.fate == "lost" }) {
		t.Error("the box was never full")
	}
	for b.m.state().ready {
		b.do(call{"Take", api.End{}, 100})
	}
}
