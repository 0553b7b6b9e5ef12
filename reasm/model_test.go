package reasm_test

import (
	"math"
	"slices"
	"testing"

	"towrope/api"
	"towrope/reasm"
)

// model tells in another way than the program what a table answers: it keeps the fragments themselves, in the order in which they arrived, and works everything else out each time.
type model struct {
	most, life int
	packets    []history
}

// history is what has arrived of a packet that waits.
type history struct {
	since  int
	pieces []api.IP
}

// sameName tells whether two fragments belong to one packet.
func sameName(p, q api.IP) bool {
	return p.Src == q.Src && p.Dst == q.Dst && p.Proto == q.Proto && p.Ident == q.Ident
}

// bound is the end of the packet, or -1.
func (h history) bound() int {
	for _, p := range h.pieces {
		if !p.More {
			return 8*p.Off + len(p.Data)
		}
	}
	return -1
}

// stop is where the last byte ends.
func (h history) stop() int {
	n := 0
	for _, p := range h.pieces {
		n = max(n, 8*p.Off+len(p.Data))
	}
	return n
}

// laid are all bytes that are present, each at its place, and where they are: what arrived first is laid on top.
func (h history) laid() (data []byte, there []bool) {
	data, there = make([]byte, h.stop()), make([]bool, h.stop())
	for _, p := range slices.Backward(h.pieces) {
		for i, b := range p.Data {
			data[8*p.Off+i], there[8*p.Off+i] = b, true
		}
	}
	return data, there
}

// first is the index of the first fragment among those that arrived, or -1.
func (h history) first() int {
	return slices.IndexFunc(h.pieces, func(p api.IP) bool { return p.Off == 0 })
}

// add is Add.
func (m *model) add(now int, p api.IP) answer {
	end := 8*p.Off + len(p.Data)
	no := slices.IndexFunc(m.packets, func(h history) bool { return sameName(h.pieces[0], p) })
	var h history
	if no >= 0 {
		h = m.packets[no]
	}
	switch {
	case now < 0, now > 1<<40, p.Off < 0, p.Off > 8191:
		return badRange
	case p.Off == 0 && !p.More:
		return done(p)
	case len(p.Data) == 0, p.More && len(p.Data)&7 != 0:
		return badForm
	case end > 65515:
		return tooLong
	case no < 0 && len(m.packets) == m.most:
		return full
	case !p.More && h.stop() > end, !p.More && h.bound() >= 0 && h.bound() != end:
		return stale
	case h.bound() >= 0 && end > h.bound():
		return stale
	case no < 0:
		m.packets = append(m.packets, history{now, []api.IP{p}})
		return waiting
	}
	h.pieces = append(slices.Clip(h.pieces), p)
	m.packets[no] = h
	data, there := h.laid()
	if h.bound() < 0 || h.first() < 0 || slices.Contains(there, false) {
		return waiting
	}
	m.packets = slices.Delete(m.packets, no, no+1)
	whole := joined(h.pieces[h.first()], data)
	if 20+len(whole.Opts)+len(data) > 65535 {
		return tooLong
	}
	return done(whole)
}

// expire is Expire.
func (m *model) expire(now int) []api.IP {
	var l []api.IP
	var left []history
	for _, h := range m.packets {
		if h.since+m.life > now {
			left = append(left, h)
		} else if h.first() >= 0 {
			l = append(l, h.pieces[h.first()])
		}
	}
	m.packets = left
	return l
}

// state is that of the table.
func (m *model) state() state {
	s := state{n: len(m.packets)}
	for _, h := range m.packets {
		_, there := h.laid()
		for _, ok := range there {
			if ok {
				s.held++
			}
		}
		if at := h.since + m.life; !s.ok || at < s.next {
			s.next, s.ok = at, true
		}
	}
	return s
}

// both are a table and its model.
type both struct {
	x *reasm.Table
	m *model
}

func newBoth(t *testing.T, most, life int) both {
	return both{table(t, most, life), &model{most: most, life: life}}
}

// add adds to both, and tells whether they differ.
func (b both) add(t *testing.T, now int, p api.IP) bool {
	got, want := add(b.x, now, p), b.m.add(now, p)
	if !got.equal(want) {
		t.Errorf("Add(%d, %s) = %v, not %v", now, told(p), got, want)
		return true
	}
	return b.differ(t)
}

// expire removes from both, and tells whether they differ.
func (b both) expire(t *testing.T, now int) bool {
	got, want := b.x.Expire(now), b.m.expire(now)
	if !allEqual(got, want) {
		t.Errorf("Expire(%d) = %s, not %s", now, allTold(got), allTold(want))
		return true
	}
	return b.differ(t)
}

func (b both) differ(t *testing.T) bool {
	got, want := stateOf(b.x), b.m.state()
	if got != want {
		t.Errorf("state %v, not %v", got, want)
	}
	return got != want
}

// inTurn calls f with each row of n numbers less than many.
func inTurn(n, many int, f func(row []int) bool) {
	row := make([]int, n)
	for {
		if !f(row) {
			return
		}
		at := 0
		for at < n && row[at] == many-1 {
			row[at] = 0
			at++
		}
		if at == n {
			return
		}
		row[at]++
	}
}

// tellRow tells the fragments of a row at which a table and its model differ.
func tellRow(t *testing.T, pieces []api.IP, row []int) {
	for _, no := range row {
		t.Log(told(pieces[no]))
	}
}

// All rows of few fragments, right and wrong ones.
func TestAllRowsOfFewFragments(t *testing.T) {
	var pieces []api.IP
	for off := range 4 {
		for _, n := range []int{0, 7, 8, 9, 16, 24} {
			pieces = append(pieces, part(off, true, n, uint32(off*100+n)), part(off, false, n, uint32(off*100+n+50)))
		}
	}
	inTurn(3, len(pieces), func(row []int) bool {
		b := newBoth(t, 1, 10)
		for i, no := range row {
			if b.add(t, i, pieces[no]) {
				tellRow(t, pieces, row)
				return false
			}
		}
		if b.expire(t, 11) || b.expire(t, 12) {
			tellRow(t, pieces, row)
			return false
		}
		return true
	})
}

// All rows of five fragments that have a form.
func TestAllRowsOfFiveFragments(t *testing.T) {
	var pieces []api.IP
	for off := range 3 {
		pieces = append(pieces, part(off, true, 8, uint32(off)), part(off, true, 16, uint32(off+10)))
		if off > 0 {
			pieces = append(pieces, part(off, false, 8, uint32(off+20)), part(off, false, 11, uint32(off+30)))
		}
	}
	inTurn(5, len(pieces), func(row []int) bool {
		b := newBoth(t, 1, 10)
		for _, no := range row {
			if b.add(t, 0, pieces[no]) {
				tellRow(t, pieces, row)
				return false
			}
		}
		return !b.expire(t, 10)
	})
}

// Fragments of no plain pattern, of several packets, with ticks of no plain pattern, and packets that are expired.
func TestFragmentsOfNoPlainPattern(t *testing.T) {
	for seed := range uint32(60) {
		b := newBoth(t, 1+int(seed%5), 1+int(seed%7)*10)
		wide := 2 + int(seed%4)*6
		for i := range 400 {
			by := noise(12, seed*1000+uint32(i))
			off := int(by[0]) % wide
			n := 8 * (1 + int(by[1])%(1+int(seed%3)*2))
			more := by[2] > 30
			if by[3] < 20 {
				n = int(by[4]) % 30
			}
			p := of(uint16(by[5]%6), part(off, more, n, uint32(by[6])))
			if by[7] < 90 {
				p.Opts = noise(4*int(by[7]%11), uint32(by[7]))
			}
			if b.add(t, i/3+int(by[8]%9), p) {
				t.Fatal("seed", seed, "call", i)
			}
			if by[9] < 25 && b.expire(t, i/3+int(by[10]%9)) {
				t.Fatal("seed", seed, "call", i)
			}
		}
		if b.expire(t, math.MaxInt) {
			t.Fatal("seed", seed)
		}
	}
}

// Each kind of tick, Off, length and More, together with each kind of table.
func TestAllFaultsTogether(t *testing.T) {
	other := of(9, part(0, true, 8, 1))
	tables := [][]api.IP{
		nil, {other}, {part(0, true, 8, 2)}, {part(2, false, 8, 3)}, {part(2, false, 7, 3)}, {part(2, false, 8, 3), part(0, true, 8, 4)},
		{part(3, true, 8, 5)}, {part(1, true, 8, 6), part(3, true, 8, 5)}, {part(8189, false, 3, 7)}, {part(8188, true, 8, 8)}, {part(1, false, 65507, 9)},
	}
	long := noise(65520, 10)
	for _, had := range tables {
		for _, now := range []int{-1, 5, api.MaxTick, api.MaxTick + 1} {
			for _, off := range []int{-1, 0, 1, 2, 3, 4, 8188, 8189, 8190, 8191, 8192} {
				for _, n := range []int{0, 1, 3, 4, 7, 8, 9, 16, 24, 65507, 65508, 65512, 65515, 65520} {
					for _, more := range []bool{false, true} {
						b := newBoth(t, 1, 10)
						for _, p := range had {
							b.add(t, 0, p)
						}
						if b.add(t, now, piece(off, more, long[:n])) || b.expire(t, now+9) || b.expire(t, now+10) {
							t.Fatal("table", allTold(had))
						}
					}
				}
			}
		}
	}
}
